package tests

import (
	"math"
	"slices"
	"strings"
	"testing"

	"loop.example/g00413/impl"
)

// Promise 7, a list that fits is recovered from cpio with octal headers: OdcFits, PutOdc, and GetOdc of what it wrote.

const trailer = "TRAILER!!!"

// trailerText is what stands at the end of an archive.
const trailerText = "070707" + "000000" + "000000" + "000000" + "000000" + "000000" + "000001" + "000000" + "00000000000" + "000013" + "00000000000" + trailer + "\x00"

// cardsText returns the cards of a list as they stand in an archive, whether it is valid or not.
func cardsText(list []impl.Entry) string {
	text := ""
	for _, c := range cardsFor(list) {
		text += cardText(c)
	}
	return text
}

// odcOf returns the archive of a list, whether it is valid or not.
func odcOf(list []impl.Entry) string {
	return cardsText(list) + trailerText
}

// fitsOdc says which entries fit in other words than the program does.
func fitsOdc(e impl.Entry) bool {
	return isEntry(e) && e.Path != trailer && e.User+e.Group == "" && e.Uid < 1<<18 && e.Gid < 1<<18 && e.Time < 1<<33
}

// reducedToOdc returns the list without what does not fit.
func reducedToOdc(list []impl.Entry) []impl.Entry {
	list = withoutUsers(list)
	for i := range list {
		e := &list[i]
		e.Uid, e.Gid, e.Time = min(e.Uid, 1<<18-1), min(e.Gid, 1<<18-1), min(e.Time, 1<<33-1)
	}
	return list
}

// odcEntries returns entries of every kind, valid and not, at and beyond the limits of this format.
func odcEntries() []impl.Entry {
	list := manyEntries()
	for _, plain := range oneOfEach() {
		for _, n := range []int{-1, 0, 1, 65535, 65536, 262142, 262143, 262144, 262145, 2097151, 4294967295, 4294967296, 8589934590, 8589934591, 8589934592, 99999999999, 100000000000, math.MaxInt} {
			for _, set := range []func(e *impl.Entry){func(e *impl.Entry) { e.Uid = n }, func(e *impl.Entry) { e.Gid = n }, func(e *impl.Entry) { e.Time = n }} {
				e := plain
				set(&e)
				list = append(list, e)
			}
		}
		for _, path := range []string{trailer, "TRAILER!!", "TRAILER!!!!", "TRAILER", "trailer!!!", trailer + "/a", "a/" + trailer, " " + trailer, trailer + "\x00", "070707"} {
			e := plain
			e.Path = path
			list = append(list, e)
		}
		for _, name := range []string{"u", "_", "0", strings.Repeat("u", 20), strings.Repeat("u", 21), "U"} {
			user, group, both := plain, plain, plain
			user.User, group.Group = name, name
			both.User, both.Group = name, "g"
			list = append(list, user, group, both)
		}
	}
	return list
}

func checkOdc(t *testing.T, name string, s string, list []impl.Entry) {
	t.Helper()
	if got, code := impl.GetOdc(s); code != impl.RdOk || !impl.SameList(got, list) {
		t.Errorf("GetOdc of %s reads %+v, want %+v, and returns %d", name, got, list, code)
	}
}

// checkNoOdc fails unless GetOdc refuses s with the code and tells nothing else.
func checkNoOdc(t *testing.T, name string, s string, want int) {
	t.Helper()
	if got, code := impl.GetOdc(s); code != want || len(got) != 0 {
		t.Errorf("GetOdc of %s reads %d entries and returns %d, want %d", name, len(got), code, want)
	}
}

// checkOdcOf fails unless the list that fits is written as its cards and the trailer, and comes back from that.
func checkOdcOf(t *testing.T, name string, list []impl.Entry) {
	t.Helper()
	want := odcOf(list)
	if s, ok := impl.PutOdc(list); s != want || !ok {
		t.Errorf("PutOdc of %s is %.300q, %v; want %.300q", name, s, ok, want)
	}
	checkOdc(t, name, want, list)
}

func TestOdcFits(t *testing.T) {
	fit, beyond := 0, 0
	for _, e := range odcEntries() {
		got := impl.OdcFits(e)
		if got != fitsOdc(e) {
			t.Errorf("OdcFits(%+v) = %v", e, got)
		}
		if got {
			fit++
		} else if isEntry(e) {
			beyond++
		}
	}
	if fit < 200 || beyond < 100 {
		t.Errorf("%d entries fit, and %d valid ones do not", fit, beyond)
	}
}

func TestOdcLimits(t *testing.T) {
	for _, kind := range oneOfEach() {
		for _, c := range []struct {
			name   string
			change func(e *impl.Entry)
			want   bool
		}{
			{"nothing else", func(e *impl.Entry) {}, true},
			{"Uid at the limit", func(e *impl.Entry) { e.Uid = 262143 }, true},
			{"Uid beyond", func(e *impl.Entry) { e.Uid = 262144 }, false},
			{"Gid at the limit", func(e *impl.Entry) { e.Gid = 262143 }, true},
			{"Gid beyond", func(e *impl.Entry) { e.Gid = 262144 }, false},
			{"Time at the limit", func(e *impl.Entry) { e.Time = 8589934591 }, true},
			{"Time beyond", func(e *impl.Entry) { e.Time = 8589934592 }, false},
			{"all at the limits", func(e *impl.Entry) { e.Mode, e.Uid, e.Gid, e.Time = 4095, 262143, 262143, 8589934591 }, true},
			{"a Mode beyond its limit", func(e *impl.Entry) { e.Mode = 4096 }, false},
			{"a negative Uid", func(e *impl.Entry) { e.Uid = -1 }, false},
			{"a negative Time", func(e *impl.Entry) { e.Time = -1 }, false},
			{"a User", func(e *impl.Entry) { e.User = "u" }, false},
			{"a Group", func(e *impl.Entry) { e.Group = "g" }, false},
			{"a User and a Group", func(e *impl.Entry) { e.User, e.Group = "u", "g" }, false},
			{"the Path of the trailer", func(e *impl.Entry) { e.Path = trailer }, false},
			{"the Path of the trailer and more", func(e *impl.Entry) { e.Path = trailer + "!" }, true},
			{"the Path of the trailer in a directory", func(e *impl.Entry) { e.Path = "a/" + trailer }, true},
			{"the longest Path", func(e *impl.Entry) { e.Path = longPath(200) }, true},
			{"a Path beyond", func(e *impl.Entry) { e.Path = longPath(201) }, false},
			{"no Path", func(e *impl.Entry) { e.Path = "" }, false},
		} {
			e := kind
			c.change(&e)
			if got := impl.OdcFits(e); got != c.want {
				t.Errorf("OdcFits of an entry of the kind %d with %s is %v", e.Kind, c.name, got)
			}
			list := []impl.Entry{file("a/f", "body"), e}
			if e.Kind == impl.KFile {
				list = list[1:]
			}
			if s, ok := impl.PutOdc(list); ok != c.want || !ok && s != "" {
				t.Errorf("PutOdc of an entry of the kind %d with %s has %d bytes, %v", e.Kind, c.name, len(s), ok)
			}
			if c.want {
				checkOdcOf(t, c.name, list)
			}
		}
	}
	if impl.OdcFits(impl.Entry{}) || !impl.OdcFits(impl.Entry{Path: "a"}) {
		t.Error("the zero entry fits, or the smallest one does not")
	}
	// The Link of a symbolic link is data, and that of a hard link the Path of an entry that does not fit.
	checkOdcOf(t, "a symbolic link to the trailer", []impl.Entry{sym("s", trailer)})
	if s, ok := impl.PutOdc([]impl.Entry{file(trailer, ""), hard("h", trailer)}); s != "" || ok {
		t.Errorf("PutOdc of a hard link to the trailer has %d bytes, %v", len(s), ok)
	}
}

// The whole archive of a file, a directory, a hard link and a symbolic link, as it stands there.
func TestOdcLayout(t *testing.T) {
	list := []impl.Entry{
		{Kind: impl.KFile, Path: "f", Mode: 0o4644, Uid: 8, Gid: 9, Time: 10, Body: "hi\n"},
		{Kind: impl.KDir, Path: "d", Mode: 0o755},
		{Kind: impl.KHard, Path: "d/h", Link: "f", Mode: 0o600, Uid: 262143, Gid: 262143, Time: 8589934591},
		{Kind: impl.KSym, Path: "s", Link: "../x", Mode: 0o777},
	}
	want := "070707" + "000000" + "000001" + "104644" + "000010" + "000011" + "000002" + "000000" + "00000000012" + "000002" + "00000000003" + "f\x00hi\n" +
		"070707" + "000000" + "000002" + "040755" + "000000" + "000000" + "000002" + "000000" + "00000000000" + "000002" + "00000000000" + "d\x00" +
		"070707" + "000000" + "000001" + "100600" + "777777" + "777777" + "000002" + "000000" + "77777777777" + "000004" + "00000000000" + "d/h\x00" +
		"070707" + "000000" + "000004" + "120777" + "000000" + "000000" + "000001" + "000000" + "00000000000" + "000002" + "00000000004" + "s\x00../x" +
		trailerText
	if s, ok := impl.PutOdc(list); s != want || !ok {
		t.Errorf("the archive is %q, want %q", s, want)
	}
	checkOdc(t, "an archive", want, list)
	for _, nothing := range [][]impl.Entry{nil, {}} {
		if s, ok := impl.PutOdc(nothing); s != trailerText || !ok {
			t.Errorf("the archive of the empty list is %q, %v", s, ok)
		}
	}
	checkOdc(t, "the empty list", trailerText, nil)
}

// The promise, for all lists that fit.
func TestOdcListComesBack(t *testing.T) {
	fit := 0
	for _, list := range someGnuLists() {
		if list = reducedToOdc(list); isList(list) {
			checkOdcOf(t, "a list that fits", list)
			fit++
		}
	}
	for _, e := range odcEntries() {
		list := []impl.Entry{file("a/f", "body"), e}
		if e.Kind == impl.KFile {
			list = []impl.Entry{e, hard("z/h", e.Path)}
		}
		if isList(list) && fitsOdc(e) {
			checkOdcOf(t, "an entry that fits", list)
			fit++
		}
	}
	if fit < 1000 {
		t.Errorf("only %d lists fit", fit)
	}
}

func TestOdcBodiesComeBack(t *testing.T) {
	for _, size := range bodySizes() {
		for _, fill := range []string{"\x00", "x", "\xff", "070707", trailerText} {
			body := strings.Repeat(fill, size)[:size]
			checkOdcOf(t, "a body", []impl.Entry{file("a", body), hard("h", "a"), file("b", body)})
		}
	}
	checkOdcOf(t, "every byte", []impl.Entry{file("a", everyByte())})
	checkOdcOf(t, "files without a body", []impl.Entry{file("a", ""), file("b", ""), hard("h", "b"), hard("i", "a")})
}

// A body may be an archive itself.
func TestOdcInOdc(t *testing.T) {
	inner := odcOf([]impl.Entry{file("in", "x"), hard("h", "in")})
	list := []impl.Entry{file("a", inner), file("b", inner[76:]), file("c", trailerText), file("d", inner[:80]), hard("in", "a"), sym("s", trailerText[:76])}
	checkOdcOf(t, "an archive in an archive", list)
}

func TestOdcManyEntries(t *testing.T) {
	for _, length := range []int{1, 2, 29, 30} {
		checkOdcOf(t, "many files", files(length))
		var links []impl.Entry
		for i, e := range files(length) {
			if i > 0 {
				e = hard(e.Path, "f")
			}
			links = append(links, e)
		}
		checkOdcOf(t, "a file with many links", links)
	}
	for _, length := range []int{31, 32, 60} {
		if s, ok := impl.PutOdc(files(length)); s != "" || ok {
			t.Errorf("PutOdc of %d entries has %d bytes, %v", length, len(s), ok)
		}
		checkNoOdc(t, "too many entries", odcOf(files(length)), impl.RdBad)
	}
}

func TestPutOdcRefuses(t *testing.T) {
	checkRefused(t, "PutOdc", impl.PutOdc)
	refused := 0
	for _, e := range odcEntries() {
		if fitsOdc(e) {
			continue
		}
		refused++
		for _, list := range [][]impl.Entry{{e}, {file("a/f", ""), dir("z"), e}, {e, file("z", "")}} {
			if s, ok := impl.PutOdc(list); s != "" || ok {
				t.Errorf("PutOdc(%+v) has %d bytes, %v", list, len(s), ok)
			}
		}
	}
	if refused < 200 {
		t.Errorf("only %d entries do not fit", refused)
	}
	last := append(files(29), impl.Entry{Path: "z", Uid: 262144})
	if s, ok := impl.PutOdc(last); s != "" || ok {
		t.Errorf("PutOdc of a 30th entry that does not fit has %d bytes, %v", len(s), ok)
	}
}

// The cards of an archive are those of its list, one behind the other.
func TestOdcIsCards(t *testing.T) {
	for _, list := range [][]impl.Entry{nil, oneOfEach(), files(30), reducedToOdc(greatList())} {
		s, ok := impl.PutOdc(list)
		if !ok {
			t.Fatal("PutOdc fails")
		}
		var cards []impl.Card
		at := 0
		for at < len(s) {
			c, next, code := impl.GetCard(s, at)
			if code != impl.RdOk || s[at:next] != impl.PutCard(c) {
				t.Fatalf("the card at %d is %+v, %d", at, c, code)
			}
			cards = append(cards, c)
			at = next
		}
		want := append(impl.CardsOf(list), impl.Card{Count: 1, Path: trailer})
		if !slices.Equal(cards, want) {
			t.Errorf("the archive has the cards %+v, want %+v", cards, want)
		}
	}
}
