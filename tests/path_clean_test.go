package tests

import (
	"path"
	"slices"
	"strings"
	"testing"

	"loop.example/g00413/impl"
)

// Promise 2, the resolved paths: Clean, Follow, and the conventions for chapter 2.

type cleanCase struct {
	s, want string
}

func TestClean(t *testing.T) {
	cases := []cleanCase{
		{"a/./b//c", "a/b/c"},
		{"a", "a"},
		{"a/b/c", "a/b/c"},
		{"/a", "a"},
		{"///a", "a"},
		{"a/", "a"},
		{"a//", "a"},
		{"./x", "x"},
		{"x/.", "x"},
		{"././x/./.", "x"},
		{"/a/../b", "b"},
		{"a/../b", "b"},
		{"a/b/..", "a"},
		{"a/b/../..//c", "c"},
		{"a/../b/../c", "c"},
		{"a/b/c/../../d", "a/d"},
		{".../..a/a..", ".../..a/a.."},
		{".../..", ""},
		// A component that is removed again may be anything.
		{"a b/../c", "c"},
		{strings.Repeat("x", 61) + "/../c", "c"},
		{strings.Repeat("x/", 500) + strings.Repeat("../", 500) + "c", "c"},
		{strings.Repeat("/.", 5000) + "/c", "c"},
		{longPath(200), longPath(200)},
		{"/./" + longPath(200) + "/", longPath(200)},
		{strings.Repeat("x", 60), strings.Repeat("x", 60)},
		// `..` leaves the root: at the start, in the middle, after the result has become empty again.
		{"..", ""},
		{"../a", ""},
		{"/..", ""},
		{"/../a", ""},
		{"./../a", ""},
		{"//../a", ""},
		{"a/../..", ""},
		{"a/../../a", ""},
		{"a/../../a/b", ""},
		{"a/b/../../..", ""},
		{"a/b/../../../a/b", ""},
		{"a/../b/../../c", ""},
		// The result is empty.
		{"", ""},
		{"/", ""},
		{"///", ""},
		{".", ""},
		{"./.", ""},
		{"/./", ""},
		{"a/..", ""},
		{"a/b/../..", ""},
		{"a/../", ""},
		// The result is not a path.
		{longPath(201), ""},
		{"./" + longPath(201), ""},
		{strings.Repeat("a/", 100) + "a", ""},
		{strings.Repeat("x", 61), ""},
		{"a/" + strings.Repeat("x", 61), ""},
		{"a b", ""},
		{"a/\x7f", ""},
		{"\x00", ""},
		{"a/\xff/b", ""},
		{"a/ ", ""},
	}
	for _, c := range cases {
		if got, ok := impl.Clean(c.s); got != c.want || ok != (c.want != "") {
			t.Errorf("Clean(%q) = %q, %v; want %q", c.s, got, ok, c.want)
		}
	}
}

// cleaned is the result of Clean by the library: what leaves the root begins with `..` there.
func cleaned(s string) (string, bool) {
	c := path.Clean(strings.TrimLeft(s, "/"))
	if c == "." || c == ".." || strings.HasPrefix(c, "../") || !isPath(c) {
		return "", false
	}
	return c, true
}

// someTexts holds all short strings over the bytes that matter, longer ones made of components, paths and what is not a path.
func someTexts() []string {
	list := append(goodPaths(), badPaths()...)
	for length := range 8 {
		list = append(list, all("a./", length)...)
	}
	words := []string{"", ".", "..", "a", "b", "..."}
	texts := []string{""}
	for range 5 {
		var longer []string
		for _, s := range texts {
			for _, w := range words {
				longer = append(longer, s+w+"/")
			}
		}
		list = append(list, longer...)
		texts = longer
	}
	return list
}

// The promise: a cleaned path is a path and is its own cleaned form.
func TestCleanedIsItsOwnCleanedForm(t *testing.T) {
	accepted := 0
	for _, s := range someTexts() {
		want, fine := cleaned(s)
		got, ok := impl.Clean(s)
		if got != want || ok != fine {
			t.Fatalf("Clean(%q) = %q, %v; want %q, %v", s, got, ok, want, fine)
		}
		if !ok {
			continue
		}
		accepted++
		if !impl.PathOk(got) {
			t.Fatalf("Clean(%q) = %q is no path", s, got)
		}
		if again, ok := impl.Clean(got); again != got || !ok {
			t.Fatalf("Clean(%q) = %q, %v", got, again, ok)
		}
	}
	if accepted == 0 {
		t.Error("nothing is accepted")
	}
	for _, s := range goodPaths() {
		if got, ok := impl.Clean(s); got != s || !ok {
			t.Errorf("Clean(%q) = %q, %v", s, got, ok)
		}
	}
}

func TestFollow(t *testing.T) {
	cases := []struct{ dir, link, want string }{
		{"a/b", "c", "a/b/c"},
		{"a/b", "../c", "a/c"},
		{"a/b", "../../c", "c"},
		{"a/b", "..", "a"},
		{"a/b", ".", "a/b"},
		{"a/b", "", "a/b"},
		{"a/b", "./c/../d", "a/b/d"},
		// An empty dir.
		{"", "c", "c"},
		{"", "c/../d", "d"},
		{"", "/c", "c"},
		{"", "", ""},
		{"", ".", ""},
		{"", "..", ""},
		{"", "../c", ""},
		// A link that starts with a slash.
		{"a/b", "/c", "c"},
		{"a/b", "//c", "c"},
		{"a/b", "/", ""},
		{"a/b", "/..", ""},
		{"a/b", "/../c", ""},
		{"..", "/c", "c"},
		{"a b", "/c", "c"},
		// A link that leaves the root.
		{"a/b", "../../..", ""},
		{"a/b", "../../../c", ""},
		{"a/b", "../../../a/b", ""},
		{"a/b", "../..", ""},
		// A dir that is not a path.
		{"..", "c", ""},
		{"../a", "c", ""},
		{"/", "c", "c"},
		{"/a/", "c", "a/c"},
		{".", "c", "c"},
		{".", "", ""},
		{"a b", "c", ""},
		{"a b", "../c", "c"},
		// The length of the result.
		{longPath(198), "c", longPath(198) + "/c"},
		{longPath(199), "c", ""},
		{longPath(199), "/c", "c"},
		{"a", strings.Repeat("x", 60), "a/" + strings.Repeat("x", 60)},
		{"a", strings.Repeat("x", 61), ""},
	}
	for _, c := range cases {
		if got, ok := impl.Follow(c.dir, c.link); got != c.want || ok != (c.want != "") {
			t.Errorf("Follow(%q, %q) = %q, %v; want %q", c.dir, c.link, got, ok, c.want)
		}
	}
}

// Whatever dir and link are, what is followed is a path below the root.
func TestFollowStaysBelowTheRoot(t *testing.T) {
	var list []string
	for length := range 5 {
		list = append(list, all("a./", length)...)
	}
	for _, dir := range list {
		for _, link := range list {
			whole := link
			if dir != "" && !strings.HasPrefix(link, "/") {
				whole = dir + "/" + link
			}
			want, fine := cleaned(whole)
			if got, ok := impl.Follow(dir, link); got != want || ok != fine {
				t.Fatalf("Follow(%q, %q) = %q, %v; want %q, %v", dir, link, got, ok, want, fine)
			}
		}
	}
}

// The conventions: a result shares no memory with an argument.
func TestPathResultsAreNewMemory(t *testing.T) {
	for _, s := range []string{longPath(40), longPath(150), longPath(250), longPath(150) + " "} {
		s = strings.Clone(s)
		results := append(impl.Parts(s), impl.Parents(s)...)
		whole, _ := impl.Clean(s)
		followed, _ := impl.Follow("", s)
		results = append(results, whole, followed, impl.Dir(s), impl.Base(s), impl.Join([]string{s}), impl.Join([]string{s, ""}))
		results = append(results, impl.Strip(s, 0), impl.Strip(s, 1), impl.Swap(s, "no", "x"), impl.Swap(s, s, ".."), impl.Swap("a", "a", s))
		for _, r := range results {
			if overlaps(r, s) {
				t.Errorf("%q lies in the argument %q", r, s)
			}
		}
	}
	list := impl.Parents(strings.Repeat(strings.Repeat("p", 40)+"/", 4) + "q")
	for i := range list {
		for j := range i {
			if overlaps(list[i], list[j]) {
				t.Errorf("%q and %q lie in the same place", list[i], list[j])
			}
		}
	}
}

// The conventions: no argument is changed, not even what lies behind the end of a list, and nothing is kept between calls.
func TestPathsChangeNothing(t *testing.T) {
	whole := []string{"a", "b", "c", "d"}
	if got := impl.Join(whole[:2]); got != "a/b" {
		t.Errorf("Join = %q", got)
	}
	if !slices.Equal(whole, []string{"a", "b", "c", "d"}) {
		t.Errorf("Join changed its argument: %q", whole)
	}
	for _, list := range []func(string) []string{impl.Parts, impl.Parents} {
		first := list("a/b/c")
		want := slices.Clone(first)
		first[0] = "changed"
		if again := list("a/b/c"); !slices.Equal(again, want) {
			t.Errorf("a result is kept: %q", again)
		}
	}
}
