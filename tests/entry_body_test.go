package tests

import (
	"math"
	"slices"
	"strings"
	"testing"

	"loop.example/g00413/impl"
)

// Promise 3, Body and Alike, and that the functions of chapter 3 keep to the conventions.

func TestBody(t *testing.T) {
	list := []impl.Entry{
		hard("early", "f"), file("f", "body"), file("empty", ""), dir("d"), sym("s", "f"),
		hard("h", "f"), hard("e", "empty"), hard("lost", "gone"), hard("tod", "d"), hard("tos", "s"), hard("toh", "h"), hard("self", "self"), hard("toempty", ""),
		{Kind: 4, Path: "k", Body: "x"}, {Kind: impl.KDir, Path: "full", Body: "x"},
	}
	cases := []struct {
		path, want string
		ok         bool
	}{
		{"f", "body", true},
		{"empty", "", true},
		{"h", "body", true},
		{"e", "", true},
		{"early", "body", true},
		{"d", "", false},
		{"s", "", false},
		{"lost", "", false},
		{"tod", "", false},
		{"tos", "", false},
		{"toh", "", false},
		{"self", "", false},
		{"toempty", "", false},
		{"k", "", false},
		{"full", "", false},
		{"nothing", "", false},
		{"gone", "", false},
		{"", "", false},
		{"f/", "", false},
		{"./f", "", false},
		{"\x00", "", false},
	}
	for _, c := range cases {
		if got, ok := impl.Body(list, c.path); got != c.want || ok != c.ok {
			t.Errorf("Body of %q is %q, %v; want %q, %v", c.path, got, ok, c.want, c.ok)
		}
		if got := impl.Alike(list, c.path); (len(got) > 0) != c.ok {
			t.Errorf("Alike of %q is %q", c.path, got)
		}
	}
	for _, list := range [][]impl.Entry{nil, {}} {
		if got, ok := impl.Body(list, "a"); got != "" || ok || len(impl.Alike(list, "a")) != 0 {
			t.Error("an empty list has a Body")
		}
	}
}

// A list is not judged: a Body may be of any size, and a Path need not be a path.
func TestBodyOfAnyList(t *testing.T) {
	long := strings.Repeat("x", 5000)
	list := append(files(40), file("/x", long), hard("/h", "/x"))
	for _, path := range []string{"/x", "/h"} {
		if got, ok := impl.Body(list, path); got != long || !ok {
			t.Errorf("Body of %q has %d bytes, %v", path, len(got), ok)
		}
		if got := impl.Alike(list, path); !slices.Equal(got, []string{"/x", "/h"}) {
			t.Errorf("Alike of %q is %q", path, got)
		}
	}
	// Of equal Paths the first one counts, as in Find.
	twice := []impl.Entry{file("a", "1"), file("a", "2"), hard("h", "a")}
	for _, path := range []string{"a", "h"} {
		if got, ok := impl.Body(twice, path); got != "1" || !ok {
			t.Errorf("Body of %q is %q, %v", path, got, ok)
		}
		if got := impl.Alike(twice, path); !slices.Equal(got, []string{"a", "h"}) {
			t.Errorf("Alike of %q is %q", path, got)
		}
	}
}

func TestAlike(t *testing.T) {
	list := []impl.Entry{
		hard("early", "f"), file("g", "body"), file("f", "body"), hard("h", "f"), sym("s", "f"), hard("gh", "g"), hard("a", "f"), hard("toh", "h"), dir("d"), file("alone", ""),
	}
	cases := []struct {
		path string
		want []string
	}{
		// In list order, also where a hard link precedes its file.
		{"f", []string{"early", "f", "h", "a"}},
		{"early", []string{"early", "f", "h", "a"}},
		{"h", []string{"early", "f", "h", "a"}},
		{"a", []string{"early", "f", "h", "a"}},
		// An equal Body does not make another file alike.
		{"g", []string{"g", "gh"}},
		{"gh", []string{"g", "gh"}},
		{"alone", []string{"alone"}},
		{"s", nil},
		{"d", nil},
		{"toh", nil},
		{"", nil},
		{"nothing", nil},
	}
	for _, c := range cases {
		if got := impl.Alike(list, c.path); !slices.Equal(got, c.want) {
			t.Errorf("Alike of %q is %q, want %q", c.path, got, c.want)
		}
	}
}

// fileOf returns the index of the file that a hard link links to, or of the file itself, in a list with distinct Paths.
func fileOf(list []impl.Entry, e impl.Entry) int {
	path := e.Path
	if e.Kind == impl.KHard {
		path = e.Link
	}
	return slices.IndexFunc(list, func(f impl.Entry) bool { return f.Kind == impl.KFile && f.Path == path })
}

func distinctPaths(list []impl.Entry) bool {
	paths := pathsIn(list)
	slices.Sort(paths)
	return len(slices.Compact(paths)) == len(list)
}

// The promise: all entries that are alike have the same body, and each of them names the same ones.
// It holds in every list with distinct Paths, hard links that precede their file among them.
func TestAlikeHaveTheSameBody(t *testing.T) {
	shared := 0
	for _, list := range lists(4) {
		if !distinctPaths(list) {
			continue
		}
		for _, e := range list {
			body, ok := impl.Body(list, e.Path)
			alike := impl.Alike(list, e.Path)
			var want []string
			at := fileOf(list, e)
			for _, other := range list {
				if at >= 0 && fileOf(list, other) == at {
					want = append(want, other.Path)
				}
			}
			if !slices.Equal(alike, want) || ok != (at >= 0) || ok && body != list[at].Body || !ok && body != "" {
				t.Fatalf("in %v %q has the Body %q, %v and is alike with %q", list, e.Path, body, ok, alike)
			}
			for _, path := range alike {
				if got, fine := impl.Body(list, path); got != body || !fine || !slices.Equal(impl.Alike(list, path), alike) {
					t.Fatalf("in %v %q and %q are alike, but have %q and %q", list, e.Path, path, body, got)
				}
			}
			if len(alike) > 1 {
				shared++
			}
		}
	}
	if shared < 100 {
		t.Errorf("only %d paths are alike with another", shared)
	}
}

// heapEntry returns an entry with long strings of its own in every field: short ones may be copied by the runtime where long ones are shared.
func heapEntry(kind int, path string) impl.Entry {
	own := func(s string) string { return strings.Clone(strings.Repeat(s, 40)) }
	return impl.Entry{Kind: kind, Path: strings.Clone(path), Link: own("l"), User: own("u"), Group: own("g"), Body: own("b")}
}

func textsOf(list []impl.Entry) []string {
	var texts []string
	for _, e := range list {
		texts = append(texts, e.Path, e.Link, e.User, e.Group, e.Body)
	}
	return texts
}

// checkApart fails if two strings of the result, or one of them and one of the argument, have bytes in the same place.
func checkApart(t *testing.T, name string, result []string, given []string) {
	t.Helper()
	for i, r := range result {
		for _, s := range append(slices.Clone(result[:i]), given...) {
			if overlaps(r, s) {
				t.Errorf("%s: %.20q lies where %.20q does", name, r, s)
			}
		}
	}
}

// The conventions: a result shares no memory with an argument, nor do two parts of it.
func TestEntryResultsAreNewMemory(t *testing.T) {
	one, two := longPath(60), longPath(120)
	invalid := []impl.Entry{heapEntry(impl.KFile, one), heapEntry(impl.KHard, two), heapEntry(impl.KDir, longPath(90))}
	valid := []impl.Entry{file(strings.Clone(one), strings.Repeat("b", 100)), hard(strings.Clone(two), strings.Clone(one)), sym(longPath(90), strings.Repeat("l", 100))}
	// Strings that lie in each other in the argument are still apart in the result.
	nested := []impl.Entry{file(two[:40], two), hard(two[:50], two[:40]), hard(two[:60], two[:40])}
	for _, list := range [][]impl.Entry{invalid, valid, nested} {
		given := textsOf(list)
		lists := map[string][]impl.Entry{
			"Sorted":             impl.Sorted(list),
			"WithNeed":           impl.WithNeed(list, 493),
			"WithNeed, refused":  impl.WithNeed(list, -1),
			"Merge, first list":  impl.Merge(list, []impl.Entry{dir("z")}),
			"Merge, second list": impl.Merge([]impl.Entry{dir("z")}, list),
			"Merge, nothing":     impl.Merge(list, nil),
			"Merge, refused":     impl.Merge(list, []impl.Entry{{}}),
		}
		for name, got := range lists {
			checkApart(t, name, textsOf(got), given)
		}
		for _, e := range list {
			body, _ := impl.Body(list, e.Path)
			checkApart(t, "Body", []string{body}, given)
			checkApart(t, "Alike", impl.Alike(list, e.Path), append(given, e.Path))
			checkApart(t, "EntryText", []string{impl.EntryText(e)}, given)
		}
		checkApart(t, "Need", impl.Need(list), given)
		checkApart(t, "ListText", []string{impl.ListText(list)}, given)
	}
}

// The conventions: no argument is changed, not even what lies behind the end of a list, and a result is not an argument itself.
func TestEntriesChangeNothing(t *testing.T) {
	whole := append([]impl.Entry{hard("z/h", "b/f"), file("b/f", "x"), dir("a"), sym("c/s", "x"), file("b/f", "y")}, files(5)...)
	before := slices.Clone(whole)
	for from := range whole {
		for to := from; to <= len(whole); to++ {
			list, other := whole[from:to], whole[:from]
			results := [][]impl.Entry{
				impl.Sorted(list), impl.WithNeed(list, 493), impl.WithNeed(list, -1),
				impl.Merge(list, other), impl.Merge(other, list), impl.Merge(list, nil), impl.Merge(nil, list), impl.Merge(list, list),
			}
			impl.Need(list)
			impl.Alike(list, "z/h")
			impl.Body(list, "z/h")
			impl.ListText(list)
			for _, result := range results {
				for i := range result {
					result[i] = impl.Entry{Path: "changed"}
				}
				_ = append(result, impl.Entry{Path: "changed"})
			}
			if !slices.Equal(whole, before) {
				t.Fatalf("with %d to %d the argument is now %v", from, to, whole)
			}
		}
	}
	for _, list := range []func([]impl.Entry) []string{impl.Need, func(l []impl.Entry) []string { return impl.Alike(l, "b/f") }} {
		first := list(whole)
		want := slices.Clone(first)
		first[0] = "changed"
		if again := list(whole); !slices.Equal(again, want) {
			t.Errorf("a result is kept: %q", again)
		}
	}
}

// The conventions: every function of the chapter answers whatever it is given.
func TestEntriesAnswerAnything(t *testing.T) {
	huge := strings.Repeat("x/", 1<<15)
	odd := []impl.Entry{{}, {Kind: math.MinInt}, {Kind: math.MaxInt, Path: huge, Link: huge, User: huge, Group: huge, Body: huge}, {Mode: math.MinInt, Uid: math.MinInt, Gid: math.MaxInt, Time: math.MinInt}}
	for kind := range 4 {
		odd = append(odd, impl.Entry{Kind: kind, Path: everyByte(), Link: everyByte(), Body: everyByte()}, impl.Entry{Kind: kind, Path: huge, Link: huge})
	}
	var many []impl.Entry
	for i := range 2000 {
		e := odd[i%len(odd)]
		e.Path = "/" + impl.DecText(i%700)
		many = append(many, e)
	}
	for _, list := range [][]impl.Entry{odd, many} {
		if impl.ListOk(list) || !impl.SameList(list, slices.Clone(list)) || impl.ListText(list) != strings.Repeat("\n", len(list)) {
			t.Error("an odd list is taken for a valid one")
		}
		if len(impl.Sorted(list)) != len(list) || len(impl.Need(list)) != 0 || impl.Find(list, "none") != -1 {
			t.Error("an odd list loses entries")
		}
		for _, mode := range []int{math.MinInt, 0, math.MaxInt} {
			if !impl.SameList(impl.WithNeed(list, mode), list) {
				t.Error("WithNeed changes an odd list")
			}
		}
		if !impl.SameList(impl.Merge(list, odd), list) || len(impl.Merge(nil, list)) != 0 {
			t.Error("Merge accepts an odd list")
		}
	}
}
