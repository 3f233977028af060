package tests

import (
	"math"
	"regexp"
	"slices"
	"strings"
	"testing"

	"loop.example/g00413/impl"
)

// Promise 2, what a path is and what it consists of: PartOk to Parents, Strip and Swap.

var partForm = regexp.MustCompile(`^[!-.0-~]{1,60}$`)

// isPart says what a component is in other words than the program does.
func isPart(s string) bool {
	return partForm.MatchString(s) && s != "." && s != ".."
}

func isPath(s string) bool {
	return len(s) <= 200 && !slices.ContainsFunc(strings.Split(s, "/"), func(part string) bool { return !isPart(part) })
}

// longPath returns a path of the given length whose components have at most MaxPart bytes.
func longPath(length int) string {
	s := strings.Repeat(strings.Repeat("p", 49)+"/", length/50+1)[:length]
	return strings.TrimSuffix(s, "/") + strings.Repeat("q", len(s)-len(strings.TrimSuffix(s, "/")))
}

func goodPaths() []string {
	return []string{
		"a", "a/b", "a/b.c", "...", "..a", ".a", "a.", "a..", ".a/..b/c..", "~/x", "a/.../b", "!", "~", "!/~", "*", "?/**", "a\\b",
		strings.Repeat("x", impl.MaxPart),
		strings.Repeat("x", impl.MaxPart) + "/" + strings.Repeat("y", impl.MaxPart),
		strings.Repeat("a/", 99) + "a",
		longPath(impl.MaxPath - 1),
		longPath(impl.MaxPath),
	}
}

func badPaths() []string {
	return []string{
		"", "/", "//", "/a", "a/", "/a/", "a//b", "//a", "a//", "a///b",
		".", "..", "./a", "../a", "a/.", "a/..", "a/./b", "a/../b",
		" ", "a b", " a", "a ", "a\x7f", "\x7f", "\x00", "a\x00", "a/\x00/b", "a\nb", "a\t", "\x80", "a/\xff", "é", "a/é",
		strings.Repeat("x", impl.MaxPart+1),
		"a/" + strings.Repeat("x", impl.MaxPart+1),
		strings.Repeat("x", impl.MaxPart+1) + "/a",
		strings.Repeat("a/", 100) + "a",
		longPath(impl.MaxPath + 1),
		longPath(5000),
	}
}

func TestLongPath(t *testing.T) {
	for length := 1; length <= 260; length++ {
		if s := longPath(length); len(s) != length || isPath(s) != (length <= 200) {
			t.Fatalf("longPath(%d) = %q", length, s)
		}
	}
}

func TestPartOk(t *testing.T) {
	for _, s := range []string{"a", "...", "....", "..a", ".a", "a.", "a..", "!", "~", strings.Repeat("x", 59), strings.Repeat("x", 60), strings.Repeat(".", 60)} {
		if !impl.PartOk(s) {
			t.Errorf("%q is a component", s)
		}
	}
	for _, s := range []string{"", ".", "..", "/", "a/b", "a/", "/a", " ", "a b", "\x7f", "\x00", "\xff", "é", strings.Repeat("x", 61), strings.Repeat(".", 61), strings.Repeat("x", 5000)} {
		if impl.PartOk(s) {
			t.Errorf("%q is no component", s)
		}
	}
}

// The bytes 33 and 126 are the first and the last of a component, 32 and 127 are outside, wherever they stand.
func TestEveryByteOfAPart(t *testing.T) {
	for c := range 256 {
		b := string([]byte{byte(c)})
		inside := c >= 33 && c <= 126 && c != '/'
		if got := impl.PartOk(b); got != (inside && b != ".") {
			t.Errorf("PartOk(%q) = %v", b, got)
		}
		for _, s := range []string{b + "x", "x" + b, "x" + b + "y", "xy" + b} {
			if got := impl.PartOk(s); got != inside {
				t.Errorf("PartOk(%q) = %v", s, got)
			}
			if got := impl.PathOk("d/" + s); got != (inside || s == "x/y") {
				t.Errorf("PathOk(%q) = %v", "d/"+s, got)
			}
		}
	}
}

func TestPathOk(t *testing.T) {
	for _, s := range goodPaths() {
		if !impl.PathOk(s) {
			t.Errorf("%q is a path", s)
		}
	}
	for _, s := range badPaths() {
		if impl.PathOk(s) {
			t.Errorf("%q is no path", s)
		}
	}
	for length := range 7 {
		for _, s := range all("a./ ", length) {
			if got := impl.PathOk(s); got != isPath(s) {
				t.Fatalf("PathOk(%q) = %v", s, got)
			}
			if got := impl.PartOk(s); got != isPart(s) {
				t.Fatalf("PartOk(%q) = %v", s, got)
			}
		}
	}
}

func TestParts(t *testing.T) {
	cases := []struct {
		s    string
		want []string
	}{
		{"", []string{""}},
		{"a", []string{"a"}},
		{"a/b", []string{"a", "b"}},
		{"a/b/c", []string{"a", "b", "c"}},
		{"a//b", []string{"a", "", "b"}},
		{"/a", []string{"", "a"}},
		{"a/", []string{"a", ""}},
		{"/", []string{"", ""}},
		{"//", []string{"", "", ""}},
		{"./..", []string{".", ".."}},
		{"a\\b\x00/\xff", []string{"a\\b\x00", "\xff"}},
	}
	for _, c := range cases {
		if got := impl.Parts(c.s); !slices.Equal(got, c.want) {
			t.Errorf("Parts(%q) = %q, want %q", c.s, got, c.want)
		}
	}
}

func TestJoin(t *testing.T) {
	cases := []struct {
		list []string
		want string
	}{
		{nil, ""},
		{[]string{}, ""},
		{[]string{""}, ""},
		{[]string{"a"}, "a"},
		{[]string{"", ""}, "/"},
		{[]string{"", "a"}, "/a"},
		{[]string{"a", ""}, "a/"},
		{[]string{"a", "b"}, "a/b"},
		{[]string{"a", "", "b"}, "a//b"},
		{[]string{"a/b", "/", "c"}, "a/b///c"},
		{[]string{"\xff", " "}, "\xff/ "},
	}
	for _, c := range cases {
		if got := impl.Join(c.list); got != c.want {
			t.Errorf("Join(%q) = %q, want %q", c.list, got, c.want)
		}
	}
}

// The promise: the parts of a string join to the string. There is one part more than there are slashes, and none holds a slash.
func TestPartsJoinToTheString(t *testing.T) {
	list := append(goodPaths(), badPaths()...)
	for length := range 9 {
		list = append(list, all("a/", length)...)
	}
	for length := range 5 {
		list = append(list, all("a/. \xff", length)...)
	}
	list = append(list, everyByte(), strings.Repeat("/", 3000), strings.Repeat("ab/", 3000))
	for _, s := range list {
		parts := impl.Parts(s)
		if got := impl.Join(parts); got != s {
			t.Fatalf("the parts of %q join to %q", s, got)
		}
		if len(parts) != strings.Count(s, "/")+1 || slices.ContainsFunc(parts, func(part string) bool { return strings.Contains(part, "/") }) {
			t.Fatalf("Parts(%q) = %q", s, parts)
		}
	}
}

func TestDirAndBase(t *testing.T) {
	cases := []struct{ s, dir, base string }{
		{"a/b/c", "a/b", "c"},
		{"a/b", "a", "b"},
		{"a", "", "a"},
		{"", "", ""},
		{"/", "", ""},
		{"/a", "", "a"},
		{"a/", "a", ""},
		{"a//b", "a/", "b"},
		{"//", "/", ""},
		{"../..", "..", ".."},
		{"a b/\xff", "a b", "\xff"},
		{"a\\b", "", "a\\b"},
	}
	for _, c := range cases {
		if got := impl.Dir(c.s); got != c.dir {
			t.Errorf("Dir(%q) = %q, want %q", c.s, got, c.dir)
		}
		if got := impl.Base(c.s); got != c.base {
			t.Errorf("Base(%q) = %q, want %q", c.s, got, c.base)
		}
	}
	for length := range 8 {
		for _, s := range all("a/.", length) {
			want := s
			if strings.Contains(s, "/") {
				want = impl.Dir(s) + "/" + impl.Base(s)
			} else if impl.Dir(s) != "" {
				t.Fatalf("Dir(%q) = %q", s, impl.Dir(s))
			} else {
				want = impl.Base(s)
			}
			if want != s || strings.Contains(impl.Base(s), "/") {
				t.Fatalf("%q has the Dir %q and the Base %q", s, impl.Dir(s), impl.Base(s))
			}
		}
	}
}

func TestDepth(t *testing.T) {
	for _, s := range goodPaths() {
		if got := impl.Depth(s); got != len(strings.Split(s, "/")) {
			t.Errorf("Depth(%q) = %d", s, got)
		}
	}
	for _, s := range badPaths() {
		if got := impl.Depth(s); got != 0 {
			t.Errorf("Depth(%q) = %d", s, got)
		}
	}
	if got := impl.Depth("a/b/c"); got != 3 {
		t.Errorf("Depth of three components is %d", got)
	}
}

func TestUnder(t *testing.T) {
	cases := []struct {
		s, dir string
		want   bool
	}{
		{"a/b", "a", true},
		{"a/b/c", "a", true},
		{"a/b/c", "a/b", true},
		{"a", "a", false},
		{"a/b", "a/b", false},
		{"ab", "a", false},
		{"ab/c", "a", false},
		{"a/bc", "a/b", false},
		{"a", "a/b", false},
		{"b/a", "a", false},
		{"a/b", "b", false},
		{"a/b", "", false},
		{"/a", "", false},
		{"a/b", "a/", false},
		{"a/", "a", false},
		{"a//b", "a", false},
		{"a/..", "a", false},
		{"a/../b", "a", false},
		{"a/b c", "a", false},
		{"../a", "..", false},
		{"./a", ".", false},
		{"", "", false},
		{"", "a", false},
		{"a/" + strings.Repeat("x", 60), "a", true},
		{"a/" + strings.Repeat("x", 61), "a", false},
		{longPath(200), longPath(199), false},
		{longPath(200), longPath(49), true},
		{longPath(201), longPath(49), false},
	}
	for _, c := range cases {
		if got := impl.Under(c.s, c.dir); got != c.want {
			t.Errorf("Under(%q, %q) = %v", c.s, c.dir, got)
		}
	}
}

func TestParents(t *testing.T) {
	cases := []struct {
		s    string
		want []string
	}{
		{"a/b/c", []string{"a", "a/b"}},
		{"a/b", []string{"a"}},
		{"a", nil},
		{"...", nil},
		{"src/a/c.go", []string{"src", "src/a"}},
	}
	for _, c := range cases {
		if got := impl.Parents(c.s); !slices.Equal(got, c.want) {
			t.Errorf("Parents(%q) = %q, want %q", c.s, got, c.want)
		}
	}
	for _, s := range badPaths() {
		if got := impl.Parents(s); len(got) != 0 {
			t.Errorf("Parents(%q) = %q", s, got)
		}
	}
	for _, s := range goodPaths() {
		checkParents(t, s)
	}
}

// checkParents goes up from the path s with Dir and expects its Parents from the last to the first.
func checkParents(t *testing.T, s string) {
	t.Helper()
	list := impl.Parents(s)
	if len(list) != impl.Depth(s)-1 {
		t.Errorf("Parents(%q) = %q", s, list)
	}
	for up, i := impl.Dir(s), len(list)-1; i >= 0; up, i = impl.Dir(up), i-1 {
		if list[i] != up || !impl.Under(s, list[i]) {
			t.Errorf("Parents(%q) = %q, with %q for %q", s, list, list[i], up)
		}
	}
}

func TestStrip(t *testing.T) {
	deep := strings.Repeat("a/", 20) + "b"
	deeper := deep + "/c"
	cases := []struct {
		s    string
		n    int
		want string
	}{
		{"a/b/c", 0, "a/b/c"},
		{"a/b/c", 1, "b/c"},
		{"a/b/c", 2, "c"},
		{"a/b/c", 3, ""},
		{"a/b/c", 4, ""},
		{"a", 0, "a"},
		{"a", 1, ""},
		{"a", -1, ""},
		{"a/b", math.MinInt, ""},
		{"a/b", math.MaxInt, ""},
		{deep, 19, "a/b"},
		{deep, 20, "b"},
		{deep, 21, ""},
		{deeper, 20, "b/c"},
		{deeper, 21, ""},
		{deeper, -1, ""},
		{deep[2:], 20, ""},
	}
	for _, c := range cases {
		if got := impl.Strip(c.s, c.n); got != c.want {
			t.Errorf("Strip(%q, %d) = %q, want %q", c.s, c.n, got, c.want)
		}
	}
	for _, s := range badPaths() {
		for n := -1; n <= 21; n++ {
			if got := impl.Strip(s, n); got != "" {
				t.Errorf("Strip(%q, %d) = %q", s, n, got)
			}
		}
	}
	for _, s := range goodPaths() {
		parts := strings.Split(s, "/")
		for n := range min(len(parts), 21) {
			if got := impl.Strip(s, n); got != strings.Join(parts[n:], "/") {
				t.Errorf("Strip(%q, %d) = %q", s, n, got)
			}
		}
	}
}

func TestSwap(t *testing.T) {
	cases := []struct{ s, from, to, want string }{
		{"a", "a", "b", "b"},
		{"a/b", "a/b", "c", "c"},
		{"a/b", "a", "x/y", "x/y/b"},
		{"a/b/c", "a/b", "x", "x/c"},
		{"a/a/b", "a", "x", "x/a/b"},
		{"a/b", "a", "a", "a/b"},
		{"a/b", "a", "a/b", "a/b/b"},
		// The path only begins with the bytes of from, or from is elsewhere in it.
		{"ab", "a", "b", "ab"},
		{"ab/c", "a", "b", "ab/c"},
		{"a/bc", "a/b", "x", "a/bc"},
		{"b/a", "a", "x", "b/a"},
		{"a", "a/b", "x", "a"},
		{"a/b", "", "x", "a/b"},
		{"a/b", "a/", "x/", "a/b"},
		// The result would not be a path.
		{"a", "a", "..", "a"},
		{"a", "a", ".", "a"},
		{"a", "a", "", "a"},
		{"a/b", "a", "", "a/b"},
		{"a/b", "a", "..", "a/b"},
		{"a/b", "a", "/x", "a/b"},
		{"a/b", "a", "x/", "a/b"},
		{"a/b", "a", "x//y", "a/b"},
		{"a/b", "a", "x y", "a/b"},
		{"a/b", "a", "x/\x7f", "a/b"},
		{"a/b", "a", strings.Repeat("x", 60), strings.Repeat("x", 60) + "/b"},
		{"a/b", "a", strings.Repeat("x", 61), "a/b"},
		{"a/b", "a", longPath(198), longPath(198) + "/b"},
		{"a/b", "a", longPath(199), "a/b"},
		{"a", "a", longPath(200), longPath(200)},
		{"a", "a", longPath(201), "a"},
	}
	for _, c := range cases {
		if got := impl.Swap(c.s, c.from, c.to); got != c.want {
			t.Errorf("Swap(%q, %q, %q) = %q, want %q", c.s, c.from, c.to, got, c.want)
		}
	}
}

// Only a path has a prefix that is replaced: any other string stays, even where it is from.
func TestSwapOfOtherStrings(t *testing.T) {
	tooLong := "src/d.go/" + strings.Repeat("x", 61)
	for _, s := range append(badPaths(), tooLong) {
		for _, from := range []string{s, "", "a", ".", "..", "/", "src", "src/d.go", strings.Repeat("x", 61)} {
			for _, to := range []string{"c", "x/y", longPath(200), "", ".."} {
				if got := impl.Swap(s, from, to); got != s {
					t.Errorf("Swap(%q, %q, %q) = %q, want the first one", s, from, to, got)
				}
			}
		}
	}
}
