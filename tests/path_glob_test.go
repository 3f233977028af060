package tests

import (
	"math"
	"regexp"
	"strings"
	"testing"

	"loop.example/g00413/impl"
)

// Chapter 2, the patterns, and that its functions answer whatever they are given.

type globCase struct {
	pattern, s string
	want       bool
}

func checkGlob(t *testing.T, cases []globCase) {
	t.Helper()
	for _, c := range cases {
		if got := impl.Glob(c.pattern, c.s); got != c.want {
			t.Errorf("Glob(%q, %q) = %v", c.pattern, c.s, got)
		}
	}
}

func TestGlobOneSign(t *testing.T) {
	checkGlob(t, []globCase{
		// Against the empty string.
		{"", "", true},
		{"?", "", false},
		{"*", "", true},
		{"**", "", true},
		{"***", "", true},
		{"a", "", false},
		// Against a slash.
		{"", "/", false},
		{"?", "/", false},
		{"*", "/", false},
		{"**", "/", true},
		{"/", "/", true},
		{"*/*", "/", true},
		{"?/?", "/", false},
		// Against one component.
		{"", "a", false},
		{"?", "a", true},
		{"?", "ab", false},
		{"??", "ab", true},
		{"*", "a", true},
		{"*", "abc", true},
		{"**", "abc", true},
		// Against several components.
		{"?", "a/b", false},
		{"???", "a/b", false},
		{"?/b", "a/b", true},
		{"*", "a/b", false},
		{"*", "/a", false},
		{"*", "a/", false},
		{"*/*", "a/b", true},
		{"*/*", "a/b/c", false},
		{"a/*", "a/b", true},
		{"a/*", "a/b/c", false},
		{"a/*", "a/", true},
		{"a/*", "a", false},
		{"a/?", "a/", false},
		{"**", "a/b/c", true},
		{"***", "a/b/c", true},
		{"****", "a/b/c", true},
		{"**/c", "a/b/c", true},
		{"**/c", "c", false},
		{"a/**", "a", false},
		{"a/**", "a/", true},
		{"a/**", "a/b/c", true},
	})
}

func TestGlobSignsNextToOtherBytes(t *testing.T) {
	checkGlob(t, []globCase{
		{"a*", "a", true},
		{"a*", "abc", true},
		{"a*", "ba", false},
		{"a*", "a/b", false},
		{"*a", "a", true},
		{"*a", "bba", true},
		{"*a", "b/a", false},
		{"*a", "ab", false},
		{"*a*", "bab", true},
		{"*a*", "bb", false},
		{"*a*", "b/a", false},
		{"a*c", "ac", true},
		{"a*c", "abbc", true},
		{"a*c", "abcb", false},
		{"a*c", "abcbc", true},
		{"a*c", "a/c", false},
		{"a**c", "ac", true},
		{"a**c", "a/b/c", true},
		{"a**c", "a/b/cd", false},
		{"**.go", "x/y.go", true},
		{"**.go", ".go", true},
		{"**.go", "x/y.go/z", false},
		{"*.go", "y.go", true},
		{"*.go", "x/y.go", false},
		{"src/**", "src/a/b", true},
		{"src/**", "srca/b", false},
		{"**a**", "x/a/y", true},
		{"**a**", "x/b/y", false},
		{"a?c", "abc", true},
		{"a?c", "a/c", false},
		{"a?c", "ac", false},
		{"?*", "", false},
		{"?*", "a", true},
		{"*?", "abc", true},
		{"*?", "ab/", false},
		{"**?", "a/b", true},
		{"**?", "a/", false},
		{"**?", "", false},
		{"?**", "a/b", true},
		{"?**", "/a", false},
		// A sign in the string is a byte like any other.
		{"a", "*", false},
		{"a", "?", false},
		{"?", "?", true},
		{"*", "*", true},
		{"ab", "a*", false},
		// Every other byte matches itself.
		{"a.c", "abc", false},
		{"[ab]", "a", false},
		{"[ab]", "[ab]", true},
		{"\\*", "*", false},
		{"\\*", "\\x", true},
		{"A", "a", false},
		{"?", "\xff", true},
		{"?", "\x00", true},
		{"?", "é", false},
		{"??", "é", true},
		{"\xff\x00", "\xff\x00", true},
		{"*", "a\nb c\x00\xff", true},
	})
}

// asRegexp turns a pattern into an expression of the library.
func asRegexp(pattern string) *regexp.Regexp {
	// The pairs are replaced first: what stands for them holds no sign that is replaced later.
	signs := strings.NewReplacer("**", `(?s:.*)`, "*", `[^/]*`, "?", `[^/]`, ".", `\.`)
	return regexp.MustCompile(`^` + signs.Replace(pattern) + `$`)
}

// Every short pattern against every short string.
func TestGlobAgainstTheLibrary(t *testing.T) {
	var texts []string
	for length := range 6 {
		texts = append(texts, all("ab/", length)...)
	}
	matched := 0
	for length := range 6 {
		for _, pattern := range all("a/?*", length) {
			form := asRegexp(pattern)
			for _, s := range texts {
				want := form.MatchString(s)
				if got := impl.Glob(pattern, s); got != want {
					t.Fatalf("Glob(%q, %q) = %v", pattern, s, got)
				}
				if want {
					matched++
				}
			}
		}
	}
	if matched == 0 {
		t.Error("nothing matches")
	}
}

// Every byte but the signs matches itself alone, and `?` and `*` match every byte but a slash.
func TestGlobEveryByte(t *testing.T) {
	for c := range 256 {
		s := string([]byte{byte(c)})
		if got := impl.Glob("?", s); got != (c != '/') {
			t.Errorf("Glob(?, %q) = %v", s, got)
		}
		if got := impl.Glob("*", s); got != (c != '/') {
			t.Errorf("Glob(*, %q) = %v", s, got)
		}
		if !impl.Glob("**", s) {
			t.Errorf("Glob(**, %q) = false", s)
		}
		for d := range 256 {
			pattern := string([]byte{byte(d)})
			if d == '*' || d == '?' {
				continue
			}
			if got := impl.Glob(pattern, s); got != (c == d) {
				t.Errorf("Glob(%q, %q) = %v", pattern, s, got)
			}
		}
	}
}

func TestGlobLimits(t *testing.T) {
	x := func(n int) string { return strings.Repeat("x", n) }
	checkGlob(t, []globCase{
		{x(50), x(50), true},
		{x(51), x(51), false},
		{x(49) + "*", x(300), true},
		{x(50) + "*", x(300), false},
		{strings.Repeat("*", 50), x(300), true},
		{strings.Repeat("*", 51), x(300), false},
		{strings.Repeat("*", 51), "", false},
		{"*", x(300), true},
		{"*", x(301), false},
		{"**", x(300), true},
		{"**", x(301), false},
		{"**", strings.Repeat("/", 300), true},
		{"**", strings.Repeat("/", 301), false},
		{strings.Repeat("?", 50), x(50), true},
		{strings.Repeat("?", 50), x(51), false},
		{strings.Repeat("?", 51), x(51), false},
		{x(1 << 20), x(1 << 20), false},
		{"**", x(1 << 20), false},
	})
}

// Many stars against a string that nearly matches: trying one place after the other would not come to an end.
func TestGlobManyStars(t *testing.T) {
	s := strings.Repeat("a", 299)
	checkGlob(t, []globCase{
		{strings.Repeat("*a", 25), s + "b", false},
		{strings.Repeat("*a", 25), s, true},
		{strings.Repeat("**a", 16), s + "b", false},
		{strings.Repeat("**a", 16), s, true},
		{strings.Repeat("*", 49) + "b", s + "a", false},
		{strings.Repeat("*?", 25), s, true},
		{strings.Repeat("*a*", 16), s, true},
	})
}

// The conventions: every function of the chapter answers whatever it is given.
func TestPathsAnswerAnything(t *testing.T) {
	texts := []string{"", "/", "\x00", "\xff\xfe", everyByte(), strings.Repeat("/", 1<<16), strings.Repeat("../", 1<<15), strings.Repeat("a/", 1<<15), strings.Repeat("x", 1<<16), strings.Repeat("*", 1<<16)}
	for _, s := range texts {
		if impl.PartOk(s) || impl.PathOk(s) || impl.Depth(s) != 0 || len(impl.Parents(s)) != 0 {
			t.Errorf("%.20q is taken for a path", s)
		}
		if impl.Join(impl.Parts(s)) != s {
			t.Errorf("the parts of %.20q do not join to it", s)
		}
		if got, ok := impl.Clean(s); got != "" || ok {
			t.Errorf("Clean(%.20q) = %q, %v", s, got, ok)
		}
		for _, n := range []int{math.MinInt, -1, 0, 20, 21, math.MaxInt} {
			if got := impl.Strip(s, n); got != "" {
				t.Errorf("Strip(%.20q, %d) = %q", s, n, got)
			}
		}
		for _, other := range texts {
			impl.Dir(s)
			impl.Base(s)
			impl.Follow(s, other)
			if impl.Under(s, other) || impl.Swap(s, other, s) != s || impl.Swap(s, s, other) != s {
				t.Errorf("%.20q is under %.20q or is moved", s, other)
			}
			if got := impl.Glob(s, other); got && (len(s) > 50 || len(other) > 300) {
				t.Errorf("Glob(%.20q, %.20q) = true", s, other)
			}
		}
	}
}
