// Package lead has where all names of a source lead (see ../../shared/doc/13-link.md), found at once: whoever asks about many names need not follow each one for itself.
package lead

import (
	"iter"
	"slices"

	"solstice/api"
	"solstice/source"
)

// Where a place leads, if not to a zone.
const (
	unknown = -1 - iota // it was not followed yet
	nowhere             // to a name that is no zone's, nor a link's
	round               // it goes round
)

// Names is the names of a source, and where they lead. All of them have places, from 0 on: those of zones, then those of links, then the targets of links.
type Names struct {
	all   []string
	zones int
	links int
	first map[string]int // where a name stands first
	ends  []int          // of each place the zone to which it leads, or why there is none
}

// Of is the names of s.
func Of(s api.Source) *Names {
	n := &Names{all: source.Names(s), zones: len(s.Zones), links: len(s.Links)}
	for _, k := range s.Links {
		n.all = append(n.all, k.Target)
	}
	n.first = make(map[string]int, len(n.all))
	// From behind, so that what stands ahead is put in the place of what stands behind.
	for i, name := range slices.Backward(n.all) {
		n.first[name] = i
	}
	n.follow()
	return n
}

// Each is the names of zones and links, in order, each one once.
func (n *Names) Each() iter.Seq[string] {
	return func(yield func(string) bool) {
		for i, name := range n.all[:n.zones+n.links] {
			if n.first[name] == i && !yield(name) {
				return
			}
		}
	}
}

// Next is the name to which a name leads at once, and true; or false, if it is a zone's, or nothing's.
func (n *Names) Next(name string) (string, bool) {
	i, is := n.first[name]
	if !is || !n.isLink(i) {
		return "", false
	}
	return n.target(i), true
}

// Zone is the place of the zone to which a name leads; or why there is none.
func (n *Names) Zone(name string) (int, api.Errno) {
	i, is := n.first[name]
	if !is {
		return 0, api.ErrNone
	}
	switch end := n.ends[i]; end {
	case nowhere:
		return 0, api.ErrNone
	case round:
		return 0, api.ErrLoop
	default:
		return end, api.OK
	}
}

// isLink tells whether at the place i the name of a link stands.
func (n *Names) isLink(i int) bool {
	return i >= n.zones && i < n.zones+n.links
}

// target is the target of the link at the place i.
func (n *Names) target(i int) string {
	return n.all[i+n.links]
}

// follow finds where all places lead.
func (n *Names) follow() {
	n.ends = make([]int, len(n.all))
	for i := range n.ends {
		switch {
		case i < n.zones:
			n.ends[i] = i
		case n.isLink(i):
			n.ends[i] = unknown
		default:
			n.ends[i] = nowhere
		}
	}
	for i := range n.ends {
		n.settle(i)
	}
}

// settle finds where the place i leads, and with it all those by which it comes there.
func (n *Names) settle(i int) {
	var passed []int
	for n.ends[i] == unknown {
		// This holds if it comes here again.
		n.ends[i] = round
		passed = append(passed, i)
		i = n.first[n.target(i)]
	}
	for _, p := range passed {
		n.ends[p] = n.ends[i]
	}
}
