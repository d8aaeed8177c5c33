package occur

// rest is what is left of all events of rules, as they are gone through from behind: the last one of each rule that has some left. These are a heap, and its head is the last one of all, in order.
type rest struct {
	rules
	heap []event
}

// all is the rest of which no event was passed yet.
func (l rules) all() *rest {
	r := &rest{rules: l}
	for place, one := range l {
		if e, is := l.upto(place, one.To); is {
			r.heap = append(r.heap, e)
		}
	}
	for i := len(r.heap)/2 - 1; i >= 0; i-- {
		r.sink(i)
	}
	return r
}

// back goes back to the last event that is sought, and leaves it there. None of a year above y may be sought, and with one all that are ahead of it must be.
func (r *rest) back(y int, sought func(event) bool) (event, bool) {
	for len(r.heap) > 0 && !sought(r.heap[0]) {
		r.pass(y)
	}
	if len(r.heap) == 0 {
		return event{}, false
	}
	return r.heap[0], true
}

// pass passes the head, and all of its rule that are of years above y.
func (r *rest) pass(y int) {
	head := r.heap[0]
	next, is := r.upto(head.place, min(y, head.year-1))
	if !is {
		// The place at the heap's end goes, and what stood there becomes the head.
		end := len(r.heap) - 1
		next, r.heap = r.heap[end], r.heap[:end]
	}
	if len(r.heap) > 0 {
		r.heap[0] = next
		r.sink(0)
	}
}

// sink puts the event at a place of the heap below all there that are behind it.
func (r *rest) sink(i int) {
	for {
		under := 2*i + 1
		if under >= len(r.heap) {
			return
		}
		if beside := under + 1; beside < len(r.heap) && r.heap[under].order(r.heap[beside]) < 0 {
			under = beside
		}
		if r.heap[under].order(r.heap[i]) < 0 {
			return
		}
		r.heap[i], r.heap[under] = r.heap[under], r.heap[i]
		i = under
	}
}
