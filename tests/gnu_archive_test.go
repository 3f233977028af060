package tests

import (
	"archive/tar"
	"strings"
	"testing"

	"loop.example/g00413/impl"
)

// Promise 6, every valid list is recovered from its GNU tar archive: PutGnu, LongName, and GetGnu of what PutGnu wrote.

// memberOf returns a header with the flag and a body, in other words than the program does.
func memberOf(e impl.Entry, flag string, body string) string {
	return longHeadOf(e, flag, len(body)) + body + strings.Repeat("\x00", (len(body)+511)/512*512-len(body))
}

// longNameOf returns what stands ahead of an entry with a long Path or Link.
func longNameOf(flag string, body string) string {
	return memberOf(impl.Entry{Path: "././@LongLink"}, flag, body)
}

// gnuRecordOf returns an entry as it stands in an archive, whatever it is, with its long names.
func gnuRecordOf(e impl.Entry) string {
	text := ""
	if len(e.Path) > 100 {
		text += longNameOf("L", e.Path+"\x00")
	}
	if len(e.Link) > 100 {
		text += longNameOf("K", e.Link+"\x00")
	}
	flag := map[int]string{impl.KFile: "0", impl.KDir: "5", impl.KSym: "2", impl.KHard: "1"}[e.Kind]
	return text + memberOf(e, flag, e.Body)
}

// gnuOf returns the archive of entries, whether their list is valid or not.
func gnuOf(list []impl.Entry) string {
	var text strings.Builder
	for _, e := range list {
		text.WriteString(gnuRecordOf(e))
	}
	return text.String() + strings.Repeat("\x00", 1024)
}

// someGnuLists returns valid lists with all that a GNU tar archive can hold.
func someGnuLists() [][]impl.Entry {
	result := somePaxLists()
	for _, length := range []int{1, 99, 100, 101, 102, 199, 200} {
		path := "L" + longPath(length)[1:]
		body := "body of " + impl.DecText(length)
		result = append(result, []impl.Entry{file(path, body)}, []impl.Entry{dir(path)}, []impl.Entry{sym(path, "to")}, []impl.Entry{file("f", body), hard(path, "f")})
		for _, other := range []int{1, 99, 100, 101, 102, 149, 150, 199, 200} {
			link := longPath(other)
			result = append(result, []impl.Entry{file(link, body), hard(path, link)})
			if other <= 150 {
				result = append(result, []impl.Entry{sym(path, link)}, []impl.Entry{sym(path, strings.Repeat("l", other)), dir("d")})
			}
		}
	}
	return result
}

func checkGnu(t *testing.T, name string, s string, list []impl.Entry) {
	t.Helper()
	if got, code := impl.GetGnu(s); code != impl.RdOk || !impl.SameList(got, list) {
		t.Errorf("GetGnu of %s reads %+v, want %+v, and returns %d", name, got, list, code)
	}
}

// checkNoGnu fails unless GetGnu refuses s with the code and tells nothing else.
func checkNoGnu(t *testing.T, name string, s string, want int) {
	t.Helper()
	if got, code := impl.GetGnu(s); code != want || len(got) != 0 {
		t.Errorf("GetGnu of %s reads %d entries and returns %d, want %d", name, len(got), code, want)
	}
}

// Every valid list is recovered from its GNU tar archive.
func TestGnuListComesBack(t *testing.T) {
	lists, withNames := 0, 0
	flags := map[string]int{}
	for _, list := range someGnuLists() {
		if !isList(list) {
			t.Fatalf("the list %+v is invalid", list)
		}
		s, ok := impl.PutGnu(list)
		if want := gnuOf(list); s != want || !ok {
			t.Fatalf("PutGnu(%+v) has %d bytes, %v; want %d", list, len(s), ok, len(want))
		}
		checkGnu(t, "a valid list", s, list)
		lists++
		if strings.ContainsAny(flagsIn(s), "LK") {
			withNames++
		}
		flags[flagsIn(s)]++
	}
	if lists < 900 || withNames < 200 {
		t.Errorf("only %d lists are valid, %d with long names", lists, withNames)
	}
	for _, some := range []string{"", "0", "5", "2", "01", "L0", "L5", "L2", "0L1", "K2", "LK2", "L0K1", "L0LK1"} {
		if flags[some] == 0 {
			t.Errorf("there is no archive with the flags %q", some)
		}
	}
}

func TestGnuBodiesComeBack(t *testing.T) {
	for _, size := range bodySizes() {
		for _, fill := range []string{"\x00", "x", "\xff", "ustar  \x00"} {
			list := []impl.Entry{file(deepPath("a"), strings.Repeat(fill, size)[:size]), hard("h", deepPath("a")), file("b", strings.Repeat(fill, size)[:size])}
			s, ok := impl.PutGnu(list)
			if !ok || s != gnuOf(list) {
				t.Errorf("PutGnu of a body of %d bytes has %d bytes, %v", size, len(s), ok)
			}
			checkGnu(t, "a body", s, list)
		}
	}
}

// Numbers of all sizes in entries of every kind.
func TestGnuNumbersComeBack(t *testing.T) {
	for _, uid := range []int{0, 1, 2097151, 2097152, 4294967295} {
		for _, time := range []int{0, 1, 8589934591, 8589934592, 99999999999} {
			var list []impl.Entry
			for _, e := range oneOfEach() {
				e.Uid, e.Gid, e.Time = uid, 4294967295-uid, time
				list = append(list, e)
			}
			s, ok := impl.PutGnu(list)
			if !ok || s != gnuOf(list) {
				t.Errorf("PutGnu(%+v) has %d bytes, %v", list, len(s), ok)
			}
			checkGnu(t, "many numbers", s, list)
		}
	}
}

func TestGnuLayout(t *testing.T) {
	nuls := func(n int) string { return strings.Repeat("\x00", n) }
	s, ok := impl.PutGnu(nil)
	if s != nuls(1024) || !ok {
		t.Errorf("the archive of the empty list is %q, %v", s, ok)
	}
	checkGnu(t, "the empty list", s, nil)
	path, link := deepPath("h"), deepPath("f")
	list := []impl.Entry{file(link, "hi"), {Kind: impl.KHard, Path: path, Link: link, Mode: 420, Uid: 4294967295, Gid: 2097152, Time: 99999999999}}
	s, ok = impl.PutGnu(list)
	name := impl.Entry{Path: "././@LongLink"}
	want := longHeadOf(name, "L", 201) + link + nuls(312) +
		longHeadOf(list[0], "0", 2) + "hi" + nuls(510) +
		longHeadOf(name, "L", 201) + path + nuls(312) +
		longHeadOf(name, "K", 201) + link + nuls(312) +
		longHeadOf(list[1], "1", 0) + nuls(1024)
	if s != want || !ok {
		t.Errorf("the archive is %q, want %q", s, want)
	}
	checkGnu(t, "long names", s, list)
	// A name of exactly 100 bytes needs no other header, though it fills its field.
	for length, want := range map[int]string{99: "02", 100: "02", 101: "L0K2", 102: "L0K2"} {
		list := []impl.Entry{file(longPath(length), ""), sym("s", longPath(length))}
		s, _ := impl.PutGnu(list)
		if got := flagsIn(s); got != want {
			t.Errorf("with names of %d bytes the headers have the flags %q", length, got)
		}
		checkGnu(t, "names", s, list)
	}
}

// All fields of the header of a long name but the size are 0.
func TestLongNameFields(t *testing.T) {
	nuls := func(n int) string { return strings.Repeat("\x00", n) }
	for _, kind := range []string{"L", "K"} {
		text := strings.Repeat("n", 101)
		s := impl.LongName(kind, text)
		want := sealed("././@LongLink" + nuls(87) + "0000000\x00" + "0000000\x00" + "0000000\x00" + "00000000146\x00" + "00000000000\x00" +
			"????????" + kind + nuls(100) + "ustar  \x00" + nuls(64) + "0000000\x00" + "0000000\x00" + nuls(167))
		if want += text + nuls(411); s != want {
			t.Errorf("LongName(%q) of 101 bytes is %q", kind, s)
		}
		checkLong(t, s, impl.Entry{Path: "././@LongLink"}, kind, 102)
	}
}

func TestLongName(t *testing.T) {
	texts := []string{"", "a", "a/b", "\x00", "a\x00b", "a\x00", everyByte()[:200], "././@LongLink", strings.Repeat("\x00", 250), strings.Repeat("\xff", 250)}
	for _, length := range []int{99, 100, 101, 150, 200, 201, 249, 250} {
		texts = append(texts, strings.Repeat("n", length), strings.Repeat("n/", length)[:length])
	}
	for _, text := range texts {
		for _, kind := range []string{"L", "K"} {
			got := impl.LongName(kind, text)
			if got != longNameOf(kind, text+"\x00") || len(got) != 1024 {
				t.Errorf("LongName(%q, %q) is %q", kind, text, got)
			}
		}
		for _, kind := range []string{"", "l", "k", "0", "1", "2", "5", "x", "g", "M", "J", "\x00", "LK", "KL", "LL", "L\x00", " L", "L "} {
			if got := impl.LongName(kind, text); got != "" {
				t.Errorf("LongName(%q, %q) is %q", kind, text, got)
			}
		}
	}
	for c := range 256 {
		kind := string([]byte{byte(c)})
		if got := impl.LongName(kind, "text"); (got != "") != (kind == "L" || kind == "K") {
			t.Errorf("LongName(%q) is %q", kind, got)
		}
	}
	for _, length := range []int{251, 252, 300, 511, 512, 3000, 1 << 16} {
		for _, kind := range []string{"L", "K", "", "x"} {
			if got := impl.LongName(kind, strings.Repeat("n", length)); got != "" {
				t.Errorf("LongName(%q) of %d bytes is %q", kind, length, got)
			}
		}
	}
}

// LongName is what PutGnu writes ahead of an entry with a long Path or Link.
func TestLongNameStandsAhead(t *testing.T) {
	ahead := 0
	for _, e := range paxEntries() {
		list := []impl.Entry{e}
		if e.Kind == impl.KHard {
			list = []impl.Entry{file(e.Link, ""), e}
		}
		want := ""
		if len(e.Path) > 100 {
			want += impl.LongName("L", e.Path)
			ahead++
		}
		if len(e.Link) > 100 {
			want += impl.LongName("K", e.Link)
			ahead++
		}
		whole, _ := impl.PutGnu(list)
		before, _ := impl.PutGnu(list[:len(list)-1])
		behind := strings.TrimPrefix(whole, before[:len(before)-1024])
		want += impl.PutLong(e, impl.Flag(e.Kind), len(e.Body)) + e.Body
		if !strings.HasPrefix(behind, want) || strings.Trim(behind[len(want):], "\x00") != "" {
			t.Fatalf("%+v is written as %q", e, behind)
		}
	}
	if ahead < 300 {
		t.Errorf("only %d names are long", ahead)
	}
}

// A body may be an archive itself.
func TestGnuInGnu(t *testing.T) {
	inner := gnuOf([]impl.Entry{sym(deepPath("in"), "x")})
	list := []impl.Entry{file("a", inner), file("b", longNameOf("L", deepPath("c")+"\x00")), file(deepPath("c"), inner[512:]), file("d", strings.Repeat("\x00", 1024)), dir("e")}
	s, ok := impl.PutGnu(list)
	if !ok || s != gnuOf(list) {
		t.Error("PutGnu fails")
	}
	checkGnu(t, "an archive in an archive", s, list)
}

func TestLibraryReadsGnu(t *testing.T) {
	for _, list := range [][]impl.Entry{greatList(), fullList(), gnuList()} {
		s, _ := impl.PutGnu(list)
		checkLibrary(t, tar.NewReader(strings.NewReader(s)), list, tar.FormatGNU)
	}
}

func TestPutGnuRefuses(t *testing.T) {
	checkRefused(t, "PutGnu", impl.PutGnu)
	for name, e := range map[string]impl.Entry{
		"a Path of 201 bytes":       file(longPath(201), ""),
		"a Link of 151 bytes":       sym("s", strings.Repeat("l", 151)),
		"a Body beyond MaxBody":     file("f", strings.Repeat("b", 3001)),
		"the Path of the long name": file("././@LongLink", ""),
	} {
		if s, ok := impl.PutGnu([]impl.Entry{e}); s != "" || ok {
			t.Errorf("PutGnu of an entry with %s has %d bytes, %v", name, len(s), ok)
		}
	}
	for _, length := range []int{29, 30} {
		if s, ok := impl.PutGnu(files(length)); s != gnuOf(files(length)) || !ok {
			t.Errorf("PutGnu of %d entries has %d bytes, %v", length, len(s), ok)
		}
	}
}
