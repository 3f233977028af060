package tests

import (
	"fmt"
	"math"
	"regexp"
	"strconv"
	"strings"
	"testing"

	"loop.example/g00413/impl"
)

// Promise 10, the header of a member comes back from its bytes: ArFits, PutMember and GetMember.

const arMark = "\x60\n"

// Where the fields of a header start, and where the header ends.
const (
	arTime = 16
	arUid  = 28
	arGid  = 34
	arMode = 40
	arSize = 48
	arLast = 58
	arEnd  = 60
)

var (
	arDecimal = regexp.MustCompile(`^(0|[1-9][0-9]*) *$`)
	arOctal   = regexp.MustCompile(`^(0|[1-7][0-7]*) *$`)
)

// arHead returns a header in other words than the program does. Its numbers must have a place.
func arHead(name string, e impl.Entry, size int) string {
	return name + strings.Repeat(" ", 16-len(name)) + fmt.Sprintf("%-12d%-6d%-6d%-8o%-10d", e.Time, e.Uid, e.Gid, e.Mode, size) + arMark
}

// arField is a number in a header.
type arField struct {
	name     string
	from, to int
	greatest int
	format   string
	set      func(e *impl.Entry, size *int, n int)
}

func arFields() []arField {
	return []arField{
		{"Time", arTime, arUid, 99999999999, "%d", func(e *impl.Entry, size *int, n int) { e.Time = n }},
		{"Uid", arUid, arGid, 999999, "%d", func(e *impl.Entry, size *int, n int) { e.Uid = n }},
		{"Gid", arGid, arMode, 999999, "%d", func(e *impl.Entry, size *int, n int) { e.Gid = n }},
		{"Mode", arMode, arSize, 4095, "%o", func(e *impl.Entry, size *int, n int) { e.Mode = n }},
		{"size", arSize, arLast, 100000, "%d", func(e *impl.Entry, size *int, n int) { *size = n }},
	}
}

// text returns the number as it stands in its field.
func (f arField) text(n int) string {
	return f.spaced(fmt.Sprintf(f.format, n))
}

// spaced returns s with spaces up to the width of the field.
func (f arField) spaced(s string) string {
	return s + strings.Repeat(" ", f.to-f.from-len(s))
}

// memberAt says what GetMember returns in other words than the program does.
func memberAt(s string, i int) (string, impl.Entry, int, int) {
	if i < 0 || i >= len(s) || len(s[i:]) < arEnd {
		return "", impl.Entry{}, 0, impl.RdCut
	}
	text := s[i : i+arEnd]
	e, size := impl.Entry{}, 0
	for _, f := range arFields() {
		form, base := arDecimal, 10
		if f.name == "Mode" {
			form, base = arOctal, 8
		}
		field := text[f.from:f.to]
		if !form.MatchString(field) {
			return "", impl.Entry{}, 0, impl.RdField
		}
		n, err := strconv.ParseInt(strings.ReplaceAll(field, " ", ""), base, 64)
		if err != nil {
			panic(err)
		}
		f.set(&e, &size, int(n))
	}
	name := text[:arTime]
	for strings.HasSuffix(name, " ") {
		name = name[:len(name)-1]
	}
	if name == "" || text[arLast:] != arMark || e.Time > 99999999999 || e.Mode > 4095 || size > 100000 {
		return "", impl.Entry{}, 0, impl.RdBad
	}
	return name, e, size, impl.RdOk
}

// judgeMember fails unless GetMember tells what stands at the index. It returns the code.
func judgeMember(t *testing.T, s string, i int) int {
	t.Helper()
	wantName, want, wantSize, wantCode := memberAt(s, i)
	name, e, size, code := impl.GetMember(s, i)
	if name != wantName || e != want || size != wantSize || code != wantCode {
		t.Fatalf("GetMember(%.300q, %d) is %q, %+v, %d, %d; want %q, %+v, %d, %d", s, i, name, e, size, code, wantName, want, wantSize, wantCode)
	}
	e.Path = "x"
	if code == impl.RdOk && impl.PutMember(name, e, size) != s[i:i+arEnd] {
		t.Fatalf("%q, %+v, %d is read, but not written as %q", name, e, size, s[i:i+arEnd])
	}
	return code
}

// checkMember fails unless the header is written as this text and read from it, wherever it stands.
func checkMember(t *testing.T, what string, name string, e impl.Entry, size int, want string) {
	t.Helper()
	if got := impl.PutMember(name, e, size); got != want {
		t.Errorf("PutMember of %s is %q, want %q", what, got, want)
	}
	told := impl.Entry{Time: e.Time, Uid: e.Uid, Gid: e.Gid, Mode: e.Mode}
	for _, ahead := range []string{"", "x", " ", "\n", "!<arch>\n", strings.Repeat("0", 59), want, want + "x"} {
		for _, behind := range []string{"", " ", "\n", "0", strings.Repeat("\xff", 100), want} {
			gotName, got, gotSize, code := impl.GetMember(ahead+want+behind, len(ahead))
			if gotName != strings.TrimRight(name, " ") || got != told || gotSize != size || code != impl.RdOk {
				t.Errorf("GetMember of %s at %d is %q, %+v, %d, %d", what, len(ahead), gotName, got, gotSize, code)
			}
		}
	}
}

// checkNoMember fails unless GetMember refuses s with the code and tells nothing else.
func checkNoMember(t *testing.T, what string, s string, i int, want int) {
	t.Helper()
	if name, e, size, code := impl.GetMember(s, i); code != want || name != "" || e != (impl.Entry{}) || size != 0 {
		t.Errorf("GetMember of %s, %.100q, at %d is %q, %+v, %d, %d; want the code %d", what, s, i, name, e, size, code, want)
	}
}

// checkMemberRefused fails unless PutMember refuses what it is given.
func checkMemberRefused(t *testing.T, what string, name string, e impl.Entry, size int) {
	t.Helper()
	if got := impl.PutMember(name, e, size); got != "" {
		t.Errorf("PutMember of %s is %q", what, got)
	}
}

// arEntry returns a file with another number in every field.
func arEntry() impl.Entry {
	return impl.Entry{Path: "some/path", Time: 1234567890, Uid: 1001, Gid: 20, Mode: 0o4751, Body: "its body"}
}

// fitsAr says which entries fit in other words than the program does.
func fitsAr(e impl.Entry) bool {
	return isEntry(e) && e.Kind == impl.KFile && e.User+e.Group == "" && max(e.Uid, e.Gid) < 1000000
}

// arEntries returns entries of every kind, valid and not, at and beyond the limits of this format.
func arEntries() []impl.Entry {
	list := odcEntries()
	for _, plain := range oneOfEach() {
		for _, n := range []int{99999, 100000, 999998, 999999, 1000000, 1000001, 1999999, 9999999999, 10000000000, 99999999998} {
			for _, set := range []func(e *impl.Entry){func(e *impl.Entry) { e.Uid = n }, func(e *impl.Entry) { e.Gid = n }, func(e *impl.Entry) { e.Time = n }} {
				e := plain
				set(&e)
				list = append(list, e)
			}
		}
	}
	return list
}

func TestArFits(t *testing.T) {
	fit, beyond := 0, 0
	for _, e := range arEntries() {
		got := impl.ArFits(e)
		if got != fitsAr(e) {
			t.Errorf("ArFits(%+v) = %v", e, got)
		}
		if got {
			fit++
		} else if isEntry(e) {
			beyond++
		}
		if text := impl.PutMember("n", e, 1); (text != "") != got {
			t.Errorf("PutMember of %+v is %q", e, text)
		}
	}
	if fit < 100 || beyond < 200 {
		t.Errorf("%d entries fit, and %d valid ones do not", fit, beyond)
	}
}

func TestArLimits(t *testing.T) {
	for _, c := range []struct {
		name   string
		change func(e *impl.Entry)
		want   bool
	}{
		{"nothing else", func(e *impl.Entry) {}, true},
		{"Uid at the limit", func(e *impl.Entry) { e.Uid = 999999 }, true},
		{"Uid beyond", func(e *impl.Entry) { e.Uid = 1000000 }, false},
		{"the greatest Uid", func(e *impl.Entry) { e.Uid = 4294967295 }, false},
		{"a negative Uid", func(e *impl.Entry) { e.Uid = -1 }, false},
		{"Gid at the limit", func(e *impl.Entry) { e.Gid = 999999 }, true},
		{"Gid beyond", func(e *impl.Entry) { e.Gid = 1000000 }, false},
		{"the greatest Gid", func(e *impl.Entry) { e.Gid = 4294967295 }, false},
		{"a negative Gid", func(e *impl.Entry) { e.Gid = -1 }, false},
		{"Time at the limit", func(e *impl.Entry) { e.Time = 99999999999 }, true},
		{"Time beyond", func(e *impl.Entry) { e.Time = 100000000000 }, false},
		{"a Time that still has 12 digits", func(e *impl.Entry) { e.Time = 999999999999 }, false},
		{"a negative Time", func(e *impl.Entry) { e.Time = -1 }, false},
		{"Mode 0", func(e *impl.Entry) { e.Mode = 0 }, true},
		{"Mode at the limit", func(e *impl.Entry) { e.Mode = 4095 }, true},
		{"Mode beyond", func(e *impl.Entry) { e.Mode = 4096 }, false},
		{"all at the limits", func(e *impl.Entry) { e.Mode, e.Uid, e.Gid, e.Time = 4095, 999999, 999999, 99999999999 }, true},
		{"a User", func(e *impl.Entry) { e.User = "u" }, false},
		{"a Group", func(e *impl.Entry) { e.Group = "g" }, false},
		{"a User and a Group", func(e *impl.Entry) { e.User, e.Group = "u", "g" }, false},
		{"the longest Path", func(e *impl.Entry) { e.Path = longPath(200) }, true},
		{"a Path beyond", func(e *impl.Entry) { e.Path = longPath(201) }, false},
		{"a Path with a space", func(e *impl.Entry) { e.Path = "a b" }, false},
		{"no Path", func(e *impl.Entry) { e.Path = "" }, false},
		{"the longest Body", func(e *impl.Entry) { e.Body = strings.Repeat("b", 3000) }, true},
		{"a Body beyond", func(e *impl.Entry) { e.Body = strings.Repeat("b", 3001) }, false},
		{"a Link", func(e *impl.Entry) { e.Link = "x" }, false},
		{"an unknown kind", func(e *impl.Entry) { e.Kind = 4 }, false},
	} {
		e := arEntry()
		c.change(&e)
		if got := impl.ArFits(e); got != c.want {
			t.Errorf("ArFits of a file with %s is %v", c.name, got)
		}
		for _, k := range arKinds() {
			if c.want {
				k.checkWritten(t, c.name, []impl.Entry{e, file("z", "z")})
			} else {
				k.checkNotWritten(t, c.name, []impl.Entry{e, file("z", "z")})
				k.checkNotWritten(t, c.name, []impl.Entry{file("z", "z"), e})
			}
		}
	}
	for _, e := range oneOfEach() {
		if got := impl.ArFits(e); got != (e.Kind == impl.KFile) {
			t.Errorf("ArFits(%+v) = %v", e, got)
		}
	}
	if impl.ArFits(impl.Entry{}) || !impl.ArFits(impl.Entry{Path: "a"}) {
		t.Error("the zero entry fits, or the smallest one does not")
	}
}

func TestMemberLayout(t *testing.T) {
	text := impl.PutMember("its_name", arEntry(), 4321)
	checkFields(t, text, []headField{
		{"name", 0, 16, "its_name        "},
		{"Time", 16, 28, "1234567890  "},
		{"Uid", 28, 34, "1001  "},
		{"Gid", 34, 40, "20    "},
		{"Mode", 40, 48, "4751    "},
		{"size", 48, 58, "4321      "},
		{"the end", 58, 60, "\x60\n"},
	})
	checkMember(t, "a file", "its_name", arEntry(), 4321, text)
	checkMember(t, "zeros", "x", impl.Entry{Path: "a"}, 0, "x               0           0     0     0       0         \x60\n")
	full := impl.Entry{Path: "a", Time: 99999999999, Uid: 999999, Gid: 999999, Mode: 4095}
	checkMember(t, "the greatest numbers", "0123456789abcdef", full, 100000, "0123456789abcdef99999999999 9999999999997777    100000    \x60\n")
	// Neither the Path nor the Body of the entry has anything to do with the header.
	for _, path := range []string{"x", "a/b", "#1", longPath(200)} {
		e := arEntry()
		e.Path, e.Body = path, strings.Repeat("b", len(path))
		if got := impl.PutMember("its_name", e, 4321); got != text {
			t.Errorf("PutMember of the Path %q is %q", path, got)
		}
	}
}

// Each number is written up to its limit, and no negative one.
func TestMemberNumbers(t *testing.T) {
	for _, base := range []impl.Entry{{Path: "p"}, arEntry()} {
		for _, f := range arFields() {
			plain := arHead("name", base, 77)
			for _, n := range []int{0, 1, 7, 8, 9, 10, 63, 64, 99, 100, 420, 511, 512, 4094, 4095, 4096, 9999, 65535, 65536, 99999, 100000, 100001, 262144, 999998, 999999, 1000000, 8589934592, 9999999999, 10000000000, 99999999998, 99999999999} {
				e, size := base, 77
				f.set(&e, &size, n)
				what := f.name + " " + impl.DecText(n)
				if n > f.greatest {
					checkMemberRefused(t, what, "name", e, size)
				} else {
					checkMember(t, what, "name", e, size, with(plain, f.from, f.text(n)))
				}
			}
			for _, n := range []int{-1, -2, -8, -420, math.MinInt, math.MinInt + 1, f.greatest + 1, 100000000000, 999999999999, 1000000000000, 1 << 40, impl.MaxNum, impl.MaxNum + 1, math.MaxInt} {
				e, size := base, 77
				f.set(&e, &size, n)
				checkMemberRefused(t, f.name+" "+impl.DecText(n), "name", e, size)
			}
		}
	}
}

// A name may have any bytes; only spaces at its end do not come back.
func TestMemberNames(t *testing.T) {
	letters := "0123456789abcdefghijkl"
	for length := range 22 {
		for _, name := range []string{letters[:length], strings.Repeat("/", length), strings.Repeat("\x00", length), strings.Repeat("\xff", length), strings.Repeat("é", length)[:length]} {
			if length == 0 || length > 16 {
				checkMemberRefused(t, "a name of "+impl.DecText(length)+" bytes", name, arEntry(), 5)
			} else {
				checkMember(t, "a name", name, arEntry(), 5, arHead(name, arEntry(), 5))
			}
		}
	}
	for _, name := range []string{"a.o/", "/", "//", "/0", "/123", "#1/5", "#1/", "!<arch>\n", " a", "  a", "a b", " a b", "a\n", "\n", "a\x00b", "\t", "\xa0", "a ", "a   ", "a b ", "fifteen_bytes_x ", "fifteen_bytes_x/", "sixteen_bytes_xx"} {
		checkMember(t, "a name", name, arEntry(), 5, arHead(name, arEntry(), 5))
	}
	for b := range 256 {
		name := "n" + string([]byte{byte(b)})
		checkMember(t, "a name", name, arEntry(), 5, arHead(name, arEntry(), 5))
		if b != ' ' {
			checkMember(t, "a name", name[1:], arEntry(), 5, arHead(name[1:], arEntry(), 5))
		}
	}
	checkMemberRefused(t, "a great name", strings.Repeat("n", 1<<20), arEntry(), 5)
	// Spaces alone are written, but they are no name.
	for length := 1; length <= 16; length++ {
		name := strings.Repeat(" ", length)
		text := arHead(name, arEntry(), 5)
		if got := impl.PutMember(name, arEntry(), 5); got != text {
			t.Errorf("PutMember of %q is %q", name, got)
		}
		checkNoMember(t, "a name of spaces alone", text, 0, impl.RdBad)
		checkNoMember(t, "a name of spaces alone behind a member", arHead("n", arEntry(), 0)+text, arEnd, impl.RdBad)
	}
}

func TestMemberSizes(t *testing.T) {
	for _, size := range []int{0, 1, 2, 9, 10, 3000, 3001, 3200, 9999, 99998, 99999, 100000} {
		checkMember(t, "a size", "name", arEntry(), size, arHead("name", arEntry(), size))
	}
	for _, size := range []int{math.MinInt, -100000, -10, -1, 100001, 100002, 999999, 1000000, 9999999999, 10000000000, math.MaxInt} {
		checkMemberRefused(t, "a size of "+impl.DecText(size), "name", arEntry(), size)
	}
	for _, size := range []int{100001, 100010, 999999, 1000000, 9999999998, 9999999999} {
		checkNoMember(t, "a size beyond the limit", arHead("name", arEntry(), size), 0, impl.RdBad)
	}
}

// What does not fit has no header, whatever the name and the size are.
func TestPutMemberRefuses(t *testing.T) {
	refused := 0
	for _, e := range arEntries() {
		if fitsAr(e) {
			continue
		}
		refused++
		for _, name := range []string{"n", "", "sixteen_bytes_xx", "seventeen_bytes_z"} {
			for _, size := range []int{-1, 0, 100000, 100001} {
				checkMemberRefused(t, "an entry that does not fit", name, e, size)
			}
		}
	}
	if refused < 300 {
		t.Errorf("only %d entries do not fit", refused)
	}
	for _, name := range []string{"", "seventeen_bytes_z"} {
		for _, size := range []int{-1, 0, 100000, 100001} {
			checkMemberRefused(t, "a name that does not fit", name, arEntry(), size)
		}
	}
	for _, e := range oneOfEach()[1:] {
		checkMemberRefused(t, "an entry of another kind", "n", e, 0)
	}
}

func TestMemberAtNoIndex(t *testing.T) {
	text := arHead("name", arEntry(), 5)
	for _, s := range []string{"", "x", text, text + text, text[:59], strings.Repeat(" ", 60)} {
		for _, i := range []int{-1, -2, -60, -len(text), math.MinInt, math.MinInt + 1, math.MinInt + 60, len(s), len(s) + 1, len(s) + 60, 1 << 40, math.MaxInt - 60, math.MaxInt - 1, math.MaxInt} {
			checkNoMember(t, "no index", s, i, impl.RdCut)
		}
	}
}

// Fewer than 60 bytes are cut, whatever they are.
func TestMemberTooShort(t *testing.T) {
	text := arHead("name", arEntry(), 5)
	for length := range 60 {
		for _, s := range []string{text[:length], strings.Repeat(" ", length), strings.Repeat("\xff", length), strings.Repeat("0", length)} {
			checkNoMember(t, "a cut header", s, 0, impl.RdCut)
			checkNoMember(t, "a cut header behind a member", text+s, 60, impl.RdCut)
		}
	}
	long := text + "hello\n" + text + "hello\n"
	for i := range long {
		want := impl.RdCut
		if i == 0 || i == 66 {
			want = impl.RdOk
		} else if i <= len(long)-60 {
			want = impl.RdField
		}
		if code := judgeMember(t, long, i); code != want {
			t.Errorf("at %d the code is %d, want %d", i, code, want)
		}
	}
}

// malformedNumbers returns what has the width of the field, but is no number there.
func malformedNumbers(f arField) []string {
	width := f.to - f.from
	list := []string{
		"", "00", "01", "007", strings.Repeat("0", width), " 7", "  7", strings.Repeat(" ", width-1) + "7", "7 7", "7  0", "7" + strings.Repeat(" ", width-2) + "7",
		"-1", "+1", "-0", "7x", "x", "x7", "7.", "0x7", "0o7", "1_0", "1e3", "7\n", "7\t", "7\x00", "\x007", strings.Repeat("\x00", width), "\xb2", "７", "7-", "/7", "7:", "1a", "a",
	}
	if f.format == "%o" {
		list = append(list, "8", "9", "78", "87", "644 8", "0644", "00000644", "12345678")
	}
	for i, s := range list {
		list[i] = f.spaced(s)
	}
	return list
}

func TestMemberWithMalformedNumbers(t *testing.T) {
	text := arHead("name", arEntry(), 5)
	for _, f := range arFields() {
		for _, number := range malformedNumbers(f) {
			wrong := with(text, f.from, number)
			what := "a malformed " + f.name
			checkNoMember(t, what, wrong, 0, impl.RdField)
			checkNoMember(t, what+" behind a member", text+wrong+text, 60, impl.RdField)
			// It counts ahead of all else that is wrong with a header, and behind an end that is missing.
			checkNoMember(t, what+" and another end", with(wrong, arLast, "xx"), 0, impl.RdField)
			checkNoMember(t, what+" and no name", with(wrong, 0, strings.Repeat(" ", 16)), 0, impl.RdField)
			checkNoMember(t, what+", cut", wrong[:59], 0, impl.RdCut)
			for _, other := range arFields() {
				if other.name != f.name && other.greatest != 999999 {
					checkNoMember(t, what+" and a great "+other.name, with(wrong, other.from, other.text(other.greatest+1)), 0, impl.RdField)
				}
			}
		}
		// Every byte at every place of the field.
		for at := f.from; at < f.to; at++ {
			for b := range 256 {
				judgeMember(t, with(text, at, string([]byte{byte(b)})), 0)
			}
		}
		judgeMember(t, with(text, f.from, strings.Repeat("7", f.to-f.from)), 0)
		judgeMember(t, with(text, f.from, strings.Repeat("9", f.to-f.from)), 0)
	}
}

// Numbers that are well formed, but beyond their limit.
func TestMemberWithGreatNumbers(t *testing.T) {
	text := arHead("name", arEntry(), 5)
	great := map[string][]int{
		"Time": {100000000000, 100000000001, 999999999999},
		"Mode": {0o10000, 0o10001, 0o100644, 0o7777777, 0o10000000, 0o77777777},
		"size": {100001, 1000000, 9999999999},
	}
	for _, f := range arFields() {
		for _, n := range great[f.name] {
			wrong := with(text, f.from, f.text(n))
			checkNoMember(t, "a great "+f.name, wrong, 0, impl.RdBad)
			checkNoMember(t, "a great "+f.name+" behind a member", text+wrong, 60, impl.RdBad)
			checkNoMember(t, "a great "+f.name+", cut", wrong[:59], 0, impl.RdCut)
		}
		if code := judgeMember(t, with(text, f.from, f.text(f.greatest)), 0); code != impl.RdOk {
			t.Errorf("the greatest %s has the code %d", f.name, code)
		}
	}
}

func TestMemberWithAnotherEnd(t *testing.T) {
	text := arHead("name", arEntry(), 5)
	for b := range 256 {
		for _, at := range []int{arLast, arLast + 1} {
			wrong := with(text, at, string([]byte{byte(b)}))
			if wrong != text {
				checkNoMember(t, "another end", wrong, 0, impl.RdBad)
				checkNoMember(t, "another end behind a member", text+wrong+text, 60, impl.RdBad)
			}
		}
	}
	for _, end := range []string{"\n\x60", "  ", "\x60 ", "\x60\r", " \n", "\n\n", "\x60\x60", "\x00\x00"} {
		checkNoMember(t, "another end", with(text, arLast, end), 0, impl.RdBad)
	}
}

// Whatever is wrong with a header at once, the code is that of the reason that the document states first.
func TestMemberFirstReason(t *testing.T) {
	text := arHead("name", arEntry(), 5)
	type fault struct {
		at     int
		text   string
		reason int
	}
	faults := []fault{{0, strings.Repeat(" ", 16), impl.RdBad}, {arLast, "x", impl.RdBad}, {arLast + 1, " ", impl.RdBad}}
	for _, f := range arFields() {
		faults = append(faults, fault{f.from, f.spaced("0x"), impl.RdField})
		if f.greatest != 999999 {
			faults = append(faults, fault{f.from, f.text(f.greatest + 1), impl.RdBad})
		}
	}
	judged := map[int]int{}
	for chosen := range 1 << len(faults) {
		s := text
		for i, f := range faults {
			if chosen>>i&1 == 1 {
				s = with(s, f.at, f.text)
			}
		}
		judged[judgeMember(t, s, 0)]++
		for _, length := range []int{0, 16, 40, 58, 59} {
			checkNoMember(t, "a cut header", s[:length], 0, impl.RdCut)
		}
	}
	if judged[impl.RdOk] != 1 || judged[impl.RdField] < 1000 || judged[impl.RdBad] < 30 {
		t.Errorf("these codes occur: %v", judged)
	}
}

// Whatever is accepted is the header that is written again, whichever byte is another one, from every index.
func TestAcceptedMemberIsWritten(t *testing.T) {
	codes := map[int]int{}
	for _, text := range []string{arHead("name", arEntry(), 5), arHead("sixteen_bytes_xx", impl.Entry{Path: "a", Time: 99999999999, Uid: 999999, Gid: 999999, Mode: 4095}, 100000), arHead("/", impl.Entry{}, 0)} {
		for at := range text {
			for b := range 256 {
				codes[judgeMember(t, with(text, at, string([]byte{byte(b)})), 0)]++
			}
			for _, c := range " 079/\x60\n" {
				changed := with(text, at, string(c)) + text
				for i := range changed {
					codes[judgeMember(t, changed, i)]++
				}
				// Two bytes that are other ones.
				for other := range text {
					codes[judgeMember(t, with(with(text, at, string(c)), other, "1"), 0)]++
					codes[judgeMember(t, with(with(text, at, string(c)), other, " "), 0)]++
				}
			}
		}
	}
	for _, code := range []int{impl.RdOk, impl.RdCut, impl.RdField, impl.RdBad} {
		if codes[code] < 1000 {
			t.Errorf("the code %d occurs only %d times", code, codes[code])
		}
	}
	if codes[impl.RdSum]+codes[impl.RdEnd] > 0 {
		t.Errorf("a header has a code that none has: %v", codes)
	}
}
