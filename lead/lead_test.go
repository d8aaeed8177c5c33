package lead

import (
	"slices"
	"testing"

	"solstice/api"
	"solstice/source"
)

// sample has names that lead to zones, round, and nowhere, and some that are there twice.
func sample() api.Source {
	return api.Source{
		Rules: []api.Rule{{Name: "R"}},
		Zones: []api.Zone{{Name: "A"}, {Name: "B"}, {Name: "A"}},
		Links: []api.Link{
			{Target: "late", Name: "x"}, {Target: "A", Name: "x"}, {Target: "B", Name: "late"}, {Target: "gone", Name: "A"},
			{Target: "gone", Name: "lost"}, {Target: "lost", Name: "y"}, {Target: "r", Name: "r"}, {Target: "r", Name: "s"},
		},
	}
}

// Each name of zones and links is told once, in order, as far as it is asked for.
func TestEach(t *testing.T) {
	all := []string{"A", "B", "x", "late", "lost", "y", "r", "s"}
	names := Of(sample())
	if got := slices.Collect(names.Each()); !slices.Equal(got, all) {
		t.Errorf("they are %q", got)
	}
	for n := range all {
		var got []string
		for name := range names.Each() {
			got = append(got, name)
			if len(got) == n+1 {
				break
			}
		}
		if !slices.Equal(got, all[:n+1]) {
			t.Errorf("the first %d are %q", n+1, got)
		}
	}
	if got := slices.Collect(Of(api.Source{}).Each()); len(got) != 0 {
		t.Errorf("without a name they are %q", got)
	}
}

// A name leads to one other at once, if it is the name of a link, and of no zone.
func TestNext(t *testing.T) {
	want := map[string]string{"x": "late", "late": "B", "lost": "gone", "y": "lost", "r": "r", "s": "r"}
	names := Of(sample())
	for _, name := range []string{"A", "B", "x", "late", "lost", "y", "r", "s", "gone", "R", ""} {
		next, is := want[name]
		if got, has := names.Next(name); got != next || has != is {
			t.Errorf("behind %q is %q, %t", name, got, has)
		}
	}
}

// A name leads to a zone, or there is a reason that it does not; however often, and in which order, it is asked.
func TestZone(t *testing.T) {
	whys := map[string]api.Errno{"lost": api.ErrNone, "y": api.ErrNone, "gone": api.ErrNone, "R": api.ErrNone, "": api.ErrNone, "r": api.ErrLoop, "s": api.ErrLoop}
	zones := map[string]int{"B": 1, "x": 1, "late": 1}
	names := Of(sample())
	all := []string{"A", "B", "x", "late", "lost", "y", "r", "s", "gone", "R", ""}
	slices.Reverse(all)
	for range 2 {
		for _, name := range all {
			if got, why := names.Zone(name); got != zones[name] || why != whys[name] {
				t.Errorf("%q leads to %d, %d", name, got, why)
			}
		}
		slices.Reverse(all)
	}
}

// What was handed in is neither changed nor kept.
func TestKeepsNothing(t *testing.T) {
	s := sample()
	names := Of(s)
	if !source.Same(s, sample()) {
		t.Errorf("it is %v", s)
	}
	s.Zones[1].Name, s.Links[0].Target, s.Links[2].Target = "", "gone", "gone"
	if got, why := names.Zone("x"); got != 1 || why != api.OK {
		t.Errorf("it leads to %d, %d", got, why)
	}
	if got, is := names.Next("x"); got != "late" || !is {
		t.Errorf("behind it is %q, %t", got, is)
	}
}
