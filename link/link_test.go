package link

import (
	"fmt"
	"math/rand"
	"slices"
	"strings"
	"testing"

	"solstice/api"
	"solstice/source"
)

// made is a source that has a zone of each name; where that is "a>b", a link of the name a to b.
func made(names string) api.Source {
	var s api.Source
	for _, name := range strings.Fields(names) {
		if name, target, is := strings.Cut(name, ">"); is {
			s.Links = append(s.Links, api.Link{Target: target, Name: name})
		} else {
			s.Zones = append(s.Zones, api.Zone{Name: name, Eras: []api.Era{{Format: "UTC"}}})
		}
	}
	return s
}

// sample has zones and links that lead to them, and such as lead to none.
const sample = "A B C  a>A  ab>a  abc>ab  b>late  late>B  r>s s>t t>r  in>inner inner>r  self>self  lost>gone  lost2>lost"

// Promise 13.1: the place of the zone to which a name leads, by no link, by one, or by more; or why there is none.
func TestZone(t *testing.T) {
	for _, c := range []struct {
		names, name string
		want        int
		why         api.Errno
	}{
		{sample, "A", 0, api.OK},
		{sample, "B", 1, api.OK},
		{sample, "C", 2, api.OK},
		{sample, "a", 0, api.OK},
		{sample, "ab", 0, api.OK},
		{sample, "abc", 0, api.OK},
		{sample, "b", 1, api.OK},
		{sample, "late", 1, api.OK},
		{sample, "r", 0, api.ErrLoop},
		{sample, "s", 0, api.ErrLoop},
		{sample, "t", 0, api.ErrLoop},
		{sample, "in", 0, api.ErrLoop},
		{sample, "inner", 0, api.ErrLoop},
		{sample, "self", 0, api.ErrLoop},
		{sample, "lost", 0, api.ErrNone},
		{sample, "lost2", 0, api.ErrNone},
		{sample, "gone", 0, api.ErrNone},
		{sample, "", 0, api.ErrNone},
		{sample, "x", 0, api.ErrNone},
		{sample, "AB", 0, api.ErrNone},
		{"", "A", 0, api.ErrNone},
		{"", "", 0, api.ErrNone},

		// Letters are not alike in names.
		{"utc UTC Etc/UTC>UTC etc/utc>utc", "Etc/UTC", 1, api.OK},
		{"utc UTC Etc/UTC>UTC etc/utc>utc", "etc/utc", 0, api.OK},
		{"utc UTC Etc/UTC>UTC etc/utc>utc", "Utc", 0, api.ErrNone},

		// Of several of one name the first one counts, and a zone ahead of a link.
		{"B A A", "A", 1, api.OK},
		{"B A A x>A", "x", 1, api.OK},
		{"A B x>B x>A", "x", 1, api.OK},
		{"A B x>gone x>A", "x", 0, api.ErrNone},
		{"A B x>x x>A", "x", 0, api.ErrLoop},
		{"A B x>A x>x", "x", 0, api.OK},
		{"A B B>A", "B", 1, api.OK},
		{"A B B>A x>B", "x", 1, api.OK},
		{"A B B>gone x>B", "x", 1, api.OK},
		{"A B B>x x>B", "x", 1, api.OK},
		{"A A>A", "A", 0, api.OK},

		// An empty name is one as well, by hand.
		{"A > x>", "", 0, api.ErrLoop},
		{"A > x>", "x", 0, api.ErrLoop},
		{"A >A x>", "x", 0, api.OK},
		{"A x>", "x", 0, api.ErrNone},
	} {
		got, why := Zone(made(c.names), c.name)
		if got != c.want || why != c.why {
			t.Errorf("Zone(%q, %q) is %d, %d, not %d, %d", c.names, c.name, got, why, c.want, c.why)
		}
	}
}

// Promise 13.1: the names by which a name comes to a zone, or to what is none; each one once, if it goes round.
func TestChain(t *testing.T) {
	for _, c := range []struct{ names, name, want string }{
		{sample, "A", "A"},
		{sample, "C", "C"},
		{sample, "a", "a A"},
		{sample, "ab", "ab a A"},
		{sample, "abc", "abc ab a A"},
		{sample, "b", "b late B"},
		{sample, "late", "late B"},
		{sample, "r", "r s t"},
		{sample, "s", "s t r"},
		{sample, "t", "t r s"},
		{sample, "in", "in inner r s t"},
		{sample, "inner", "inner r s t"},
		{sample, "self", "self"},
		{sample, "lost", "lost gone"},
		{sample, "lost2", "lost2 lost gone"},
		{sample, "gone", "gone"},
		{sample, "x", "x"},
		{"", "A", "A"},
		{"B A A x>A", "x", "x A"},
		{"A B x>B x>A", "x", "x B"},
		{"A B x>gone x>A", "x", "x gone"},
		{"A B B>A", "B", "B"},
		{"A B B>A x>B", "x", "x B"},
		{"A B B>x x>B", "x", "x B"},
		{"A A>A", "A", "A"},
		{"A b>c c>b a>b", "a", "a b c"},
		{"A a>b b>c c>c", "a", "a b c"},
	} {
		if got := Chain(made(c.names), c.name); strings.Join(got, " ") != c.want {
			t.Errorf("Chain(%q, %q) is %q, not %q", c.names, c.name, got, c.want)
		}
	}
	if got := Chain(api.Source{}, ""); len(got) != 1 || got[0] != "" {
		t.Errorf("the chain of an empty name is %q", got)
	}
	if got := Chain(made("x>"), "x"); !slices.Equal(got, []string{"x", ""}) {
		t.Errorf("the chain to an empty name is %q", got)
	}
	if got := Chain(made("x> >x"), "x"); !slices.Equal(got, []string{"x", ""}) {
		t.Errorf("the chain round by an empty name is %q", got)
	}
}

// Promise 13.2: all names that lead to the zone to which a name does, in order, each one once.
func TestAliases(t *testing.T) {
	for _, c := range []struct{ names, name, want string }{
		{sample, "A", "A a ab abc"},
		{sample, "abc", "A a ab abc"},
		{sample, "B", "B b late"},
		{sample, "late", "B b late"},
		{sample, "C", "C"},
		{sample, "r", ""},
		{sample, "in", ""},
		{sample, "self", ""},
		{sample, "lost", ""},
		{sample, "gone", ""},
		{sample, "", ""},
		{"", "A", ""},
		{"", "", ""},
		{"z>a a>b m>A b>A", "z", ""},
		{"A z>a a>b m>A b>A", "A", "A z a m b"},
		{"B A z>A y>B x>A w>B", "z", "A z x"},
		{"B A z>A y>B x>A w>B", "B", "B y w"},

		// What is there twice is told where it stands first, if that leads there.
		{"A B A x>A", "x", "A x"},
		{"A x>A y>A x>A", "A", "A x y"},
		{"A B x>B y>A x>A", "A", "A y"},
		{"A B x>B y>A x>A", "B", "B x"},
		{"A x>gone y>A x>A", "A", "A y"},
		{"A B B>A x>B", "A", "A"},
		{"A B B>A x>B", "x", "B x"},
		{"A A>A", "A", "A"},
	} {
		if got := Aliases(made(c.names), c.name); strings.Join(got, " ") != c.want {
			t.Errorf("Aliases(%q, %q) is %q, not %q", c.names, c.name, got, c.want)
		}
	}
	if got := Aliases(made("A >A x>"), "A"); !slices.Equal(got, []string{"A", "", "x"}) {
		t.Errorf("with an empty name they are %q", got)
	}
}

// Promises 13.1 and 13.2: a source that was read, and its rules, whose names lead nowhere.
func TestRead(t *testing.T) {
	s, f := source.Parse("Rule EU 1981 max - Mar lastSun 1:00u 1:00 S\nLink Europe/Berlin Europe/Busingen\nZone UTC 0 - UTC\nZone Europe/Berlin 1:00 EU CE%sT 2000\n\t1:00 - CET\nL Europe/Busingen Arctic/Longyearbyen\nL UTC Zulu\n")
	if f != (api.Fault{}) {
		t.Fatalf("it is %v", f)
	}
	if got, why := Zone(s, "Arctic/Longyearbyen"); got != 1 || why != api.OK {
		t.Errorf("it leads to %d, %d", got, why)
	}
	if got, why := Zone(s, "EU"); got != 0 || why != api.ErrNone {
		t.Errorf("a rule leads to %d, %d", got, why)
	}
	if got := Chain(s, "Arctic/Longyearbyen"); strings.Join(got, " ") != "Arctic/Longyearbyen Europe/Busingen Europe/Berlin" {
		t.Errorf("its chain is %q", got)
	}
	if got := Aliases(s, "Europe/Busingen"); strings.Join(got, " ") != "Europe/Berlin Europe/Busingen Arctic/Longyearbyen" {
		t.Errorf("its aliases are %q", got)
	}
}

// Promises 13.1 and 13.2: it is so in any source, as well in one that is not right.
func TestWrongSource(t *testing.T) {
	long := strings.Repeat("x", 1000)
	s := api.Source{
		Rules: []api.Rule{{Name: "R"}, {}},
		Zones: []api.Zone{{}, {Name: "\u00e4 \n"}, {Name: long}},
		Links: []api.Link{{Target: long, Name: "1"}, {Target: "\x00", Name: "\xff"}, {Target: "", Name: "R"}, {Target: "\u00e4 \n", Name: "\x00"}},
	}
	if source.Check(s) != api.ErrForm {
		t.Fatal("the source is right")
	}
	for name, want := range map[string]int{"": 0, "\u00e4 \n": 1, long: 2, "1": 2, "\xff": 1, "R": 0, "\x00": 1} {
		if got, why := Zone(s, name); got != want || why != api.OK {
			t.Errorf("Zone of %q is %d, %d, not %d", name, got, why, want)
		}
	}
	if got := Chain(s, "\xff"); !slices.Equal(got, []string{"\xff", "\x00", "\u00e4 \n"}) {
		t.Errorf("the chain is %q", got)
	}
	if got := Aliases(s, "R"); !slices.Equal(got, []string{"", "R"}) {
		t.Errorf("the aliases are %q", got)
	}
}

// model is where a name leads, and by which names, found step by step, as the document says it.
func model(s api.Source, name string) (int, []string, api.Errno) {
	var came []string
	for !slices.Contains(came, name) {
		came = append(came, name)
		if z := slices.IndexFunc(s.Zones, func(z api.Zone) bool { return z.Name == name }); z >= 0 {
			return z, came, api.OK
		}
		k := slices.IndexFunc(s.Links, func(k api.Link) bool { return k.Name == name })
		if k < 0 {
			return 0, came, api.ErrNone
		}
		name = s.Links[k].Target
	}
	return 0, came, api.ErrLoop
}

// modelAliases is the aliases of a name, found in the same way.
func modelAliases(s api.Source, name string) []string {
	zone, _, why := model(s, name)
	var l []string
	for _, other := range source.Names(s) {
		z, _, no := model(s, other)
		if why == api.OK && no == api.OK && z == zone && !slices.Contains(l, other) {
			l = append(l, other)
		}
	}
	return l
}

// letter is the name at a place.
func letter(i int) string {
	return "abcdefghijklmnopqrst"[i : i+1]
}

// some is a source of a few zones and links, many of one name, or of none.
func some(r *rand.Rand, kinds int) api.Source {
	name := func() string { return letter(r.Intn(kinds)) }
	var s api.Source
	for range r.Intn(4) {
		s.Zones = append(s.Zones, api.Zone{Name: name()})
	}
	for range r.Intn(2 * kinds) {
		s.Links = append(s.Links, api.Link{Target: name(), Name: name()})
	}
	return s
}

// Promises 13.1 and 13.2: against a second way of finding it, in any sources.
func TestModel(t *testing.T) {
	r := rand.New(rand.NewSource(13))
	whys := map[api.Errno]int{}
	for range 5000 {
		kinds := 2 + r.Intn(15)
		s := some(r, kinds)
		for i := range kinds + 1 {
			name := letter(i)
			zone, chain, why := model(s, name)
			whys[why]++
			if got, no := Zone(s, name); got != zone || no != why {
				t.Fatalf("Zone(%v, %q) is %d, %d, not %d, %d", s, name, got, no, zone, why)
			}
			if got := Chain(s, name); !slices.Equal(got, chain) {
				t.Fatalf("Chain(%v, %q) is %q, not %q", s, name, got, chain)
			}
			if got, want := Aliases(s, name), modelAliases(s, name); !slices.Equal(got, want) {
				t.Fatalf("Aliases(%v, %q) is %q, not %q", s, name, got, want)
			}
		}
	}
	for _, why := range []api.Errno{api.OK, api.ErrNone, api.ErrLoop} {
		if whys[why] < 1000 {
			t.Errorf("%d was there %d times alone", why, whys[why])
		}
	}
}

// Promise 13.3: each name of a chain leads to the same zone, and so does each alias, and has the same aliases.
func TestOneZone(t *testing.T) {
	r := rand.New(rand.NewSource(133))
	sources := []api.Source{made(sample)}
	for range 3000 {
		sources = append(sources, some(r, 2+r.Intn(15)))
	}
	for _, s := range sources {
		for _, name := range source.Names(s) {
			zone, why := Zone(s, name)
			aliases := Aliases(s, name)
			if (why == api.OK) != slices.Contains(aliases, name) {
				t.Fatalf("in %v %q has the aliases %q", s, name, aliases)
			}
			chain := Chain(s, name)
			if why == api.OK && s.Zones[zone].Name != chain[len(chain)-1] {
				t.Fatalf("in %v the chain of %q is %q", s, name, chain)
			}
			for _, other := range slices.Concat(chain, aliases) {
				if z, no := Zone(s, other); z != zone || no != why {
					t.Fatalf("in %v %q leads to %d, %d, but %q to %d, %d", s, name, zone, why, other, z, no)
				}
				if l := Aliases(s, other); !slices.Equal(l, aliases) {
					t.Fatalf("in %v %q has the aliases %q, but %q has %q", s, name, aliases, other, l)
				}
			}
		}
	}
}

// Promises 13.1 and 13.2: what is handed in is not changed, and what is answered is not shared.
func TestKeepsSource(t *testing.T) {
	s, want := made(sample), made(sample)
	for _, name := range source.Names(s) {
		Zone(s, name)
		chain, aliases := Chain(s, name), Aliases(s, name)
		for _, l := range [][]string{chain, aliases} {
			for i := range l {
				l[i] = "changed"
			}
			_ = append(l, "more")
		}
	}
	if !source.Same(s, want) || strings.Join(Aliases(s, "ab"), " ") != "A a ab abc" || strings.Join(Chain(s, "ab"), " ") != "ab a A" {
		t.Errorf("it is %v", s)
	}
}

// Promises 13.1 and 13.2: as many zones and links as there may be, and far more, in one long chain, or round.
func TestMany(t *testing.T) {
	for _, n := range []int{4096, 200000} {
		name := func(i int) string { return fmt.Sprintf("L%d", i) }
		s := api.Source{Zones: make([]api.Zone, n/4)}
		for i := range s.Zones {
			s.Zones[i].Name = fmt.Sprintf("Z%d", i)
		}
		last := len(s.Zones) - 1
		for i := range n {
			s.Links = append(s.Links, api.Link{Target: name(i + 1), Name: name(i)})
		}
		if got, why := Zone(s, name(0)); got != 0 || why != api.ErrNone {
			t.Errorf("what has no end leads to %d, %d", got, why)
		}
		if got := Chain(s, name(1)); len(got) != n || got[n-1] != name(n) {
			t.Errorf("the chain without end has %d names", len(got))
		}
		s.Links[n-1].Target = s.Zones[last].Name
		if got, why := Zone(s, name(0)); got != last || why != api.OK {
			t.Errorf("it leads to %d, %d", got, why)
		}
		if got := Chain(s, name(0)); len(got) != n+1 || got[n] != s.Zones[last].Name || got[n-1] != name(n-1) {
			t.Errorf("the chain has %d names", len(got))
		}
		if got := Aliases(s, name(n/2)); len(got) != n+1 || got[0] != s.Zones[last].Name || got[1] != name(0) || got[n] != name(n-1) {
			t.Errorf("there are %d aliases", len(got))
		}
		s.Links[n-1].Target = name(1)
		if got, why := Zone(s, name(0)); got != 0 || why != api.ErrLoop {
			t.Errorf("what goes round leads to %d, %d", got, why)
		}
		if got := Chain(s, name(0)); len(got) != n || got[n-1] != name(n-1) {
			t.Errorf("the chain round has %d names", len(got))
		}
		if got := Aliases(s, name(0)); got != nil {
			t.Errorf("what goes round has %d aliases", len(got))
		}
	}
}
