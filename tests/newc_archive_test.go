package tests

import (
	"strings"
	"testing"

	"loop.example/g00413/impl"
)

// Promise 8, a list that fits is recovered from cpio with hexadecimal headers: NewFits, PutNewc, and GetNewc of what it wrote.

// newTrailer is what stands at the end of an archive.
func newTrailer(crc bool) string {
	return newMagics[crc] + "00000000" + "00000000" + "00000000" + "00000000" + "00000001" + "00000000" + "00000000" +
		"00000000" + "00000000" + "00000000" + "00000000" + "0000000b" + "00000000" + trailer + "\x00" + "\x00\x00\x00"
}

// newForms returns the format without checksums and with them.
func newForms(t *testing.T) []cardForm {
	var forms []cardForm
	for _, crc := range []bool{false, true} {
		forms = append(forms, cardForm{
			name: newMagics[crc],
			put:  func(list []impl.Entry) (string, bool) { return impl.PutNewc(list, crc) },
			get: func(s string) ([]impl.Entry, int) {
				list, got, code := impl.GetNewc(s)
				if got != (crc && code == impl.RdOk) {
					t.Errorf("GetNewc of %.200q with checksums, %v, returns %v, %d", s, crc, got, code)
				}
				return list, code
			},
			putCard:  func(c impl.Card) string { return impl.PutNew(c, crc) },
			getCard:  func(s string, i int) (impl.Card, int, int) { return impl.GetNew(s, i, crc) },
			text:     func(c impl.Card) string { return newText(c, crc) },
			unit:     4,
			reduced:  reducedToNew,
			greatest: greatestNew,
		})
	}
	return forms
}

// newTexts returns the cards of a list as they stand in an archive, whether it is valid or not.
func newTexts(list []impl.Entry, crc bool) string {
	text := ""
	for _, c := range cardsFor(list) {
		text += newText(c, crc)
	}
	return text
}

// newcOf returns the archive of a list, whether it is valid or not.
func newcOf(list []impl.Entry, crc bool) string {
	return newTexts(list, crc) + newTrailer(crc)
}

// fitsNew says which entries fit in other words than the program does.
func fitsNew(e impl.Entry) bool {
	return isEntry(e) && e.Path != trailer && e.User+e.Group == "" && e.Time < 1<<32
}

// reducedToNew returns the list without what does not fit.
func reducedToNew(list []impl.Entry) []impl.Entry {
	list = withoutUsers(list)
	for i := range list {
		list[i].Time = min(list[i].Time, 1<<32-1)
	}
	return list
}

func checkNewc(t *testing.T, name string, s string, list []impl.Entry, crc bool) {
	t.Helper()
	if got, gotCrc, code := impl.GetNewc(s); code != impl.RdOk || gotCrc != crc || !impl.SameList(got, list) {
		t.Errorf("GetNewc of %s reads %+v, want %+v, and returns %v, %d; want %v", name, got, list, gotCrc, code, crc)
	}
}

// checkNoNewc fails unless GetNewc refuses s with the code and tells nothing else.
func checkNoNewc(t *testing.T, name string, s string, want int) {
	t.Helper()
	if got, crc, code := impl.GetNewc(s); code != want || crc || len(got) != 0 {
		t.Errorf("GetNewc of %s reads %d entries and returns %v, %d; want %d", name, len(got), crc, code, want)
	}
}

// checkNewcOf fails unless the list that fits is written as its cards and the trailer, and comes back from that, with and without checksums.
func checkNewcOf(t *testing.T, name string, list []impl.Entry) {
	t.Helper()
	for _, f := range newForms(t) {
		f.checkWritten(t, name, list)
	}
}

// checkNoNewcOf fails unless PutNewc refuses the list.
func checkNoNewcOf(t *testing.T, name string, list []impl.Entry) {
	t.Helper()
	for _, f := range newForms(t) {
		f.checkNotWritten(t, name, list)
	}
}

// The limits of the octal headers are none here.
func TestNewFits(t *testing.T) {
	fit, beyond, more := 0, 0, 0
	for _, e := range odcEntries() {
		got := impl.NewFits(e)
		if got != fitsNew(e) {
			t.Errorf("NewFits(%+v) = %v", e, got)
		}
		switch {
		case got && !fitsOdc(e):
			more++
		case got:
			fit++
		case isEntry(e):
			beyond++
		}
	}
	if fit < 200 || beyond < 60 || more < 30 {
		t.Errorf("%d entries fit into octal headers, %d only into hexadecimal ones, and %d valid ones do not", fit, more, beyond)
	}
}

func TestNewLimits(t *testing.T) {
	for _, kind := range oneOfEach() {
		for _, c := range []struct {
			name   string
			change func(e *impl.Entry)
			want   bool
		}{
			{"nothing else", func(e *impl.Entry) {}, true},
			{"Time at the limit", func(e *impl.Entry) { e.Time = 4294967295 }, true},
			{"Time beyond", func(e *impl.Entry) { e.Time = 4294967296 }, false},
			{"the greatest Time", func(e *impl.Entry) { e.Time = 99999999999 }, false},
			{"a negative Time", func(e *impl.Entry) { e.Time = -1 }, false},
			{"Uid at the limit", func(e *impl.Entry) { e.Uid = 4294967295 }, true},
			{"Uid beyond", func(e *impl.Entry) { e.Uid = 4294967296 }, false},
			{"Gid at the limit", func(e *impl.Entry) { e.Gid = 4294967295 }, true},
			{"Gid beyond", func(e *impl.Entry) { e.Gid = 4294967296 }, false},
			{"a negative Gid", func(e *impl.Entry) { e.Gid = -1 }, false},
			{"all at the limits", func(e *impl.Entry) { e.Mode, e.Uid, e.Gid, e.Time = 4095, 4294967295, 4294967295, 4294967295 }, true},
			{"a Mode beyond its limit", func(e *impl.Entry) { e.Mode = 4096 }, false},
			{"a User", func(e *impl.Entry) { e.User = "u" }, false},
			{"a Group", func(e *impl.Entry) { e.Group = "g" }, false},
			{"a User and a Group", func(e *impl.Entry) { e.User, e.Group = "u", "g" }, false},
			{"the Path of the trailer", func(e *impl.Entry) { e.Path = trailer }, false},
			{"the Path of the trailer and more", func(e *impl.Entry) { e.Path = trailer + "!" }, true},
			{"the Path of the trailer in a directory", func(e *impl.Entry) { e.Path = "a/" + trailer }, true},
			{"the longest Path", func(e *impl.Entry) { e.Path = longPath(200) }, true},
			{"a Path beyond", func(e *impl.Entry) { e.Path = longPath(201) }, false},
			{"a Path with a NUL", func(e *impl.Entry) { e.Path = "a\x00b" }, false},
			{"no Path", func(e *impl.Entry) { e.Path = "" }, false},
			{"an unknown kind", func(e *impl.Entry) { e.Kind = 4 }, false},
		} {
			e := kind
			c.change(&e)
			if got := impl.NewFits(e); got != c.want {
				t.Errorf("NewFits of an entry of the kind %d with %s is %v", e.Kind, c.name, got)
			}
			list := []impl.Entry{file("a/f", "body"), e}
			if e.Kind == impl.KFile {
				list = list[1:]
			}
			if c.want {
				checkNewcOf(t, c.name, list)
			} else {
				checkNoNewcOf(t, c.name, list)
			}
		}
	}
	if impl.NewFits(impl.Entry{}) || !impl.NewFits(impl.Entry{Path: "a"}) {
		t.Error("the zero entry fits, or the smallest one does not")
	}
	// The Link of a symbolic link is data, and that of a hard link the Path of an entry that does not fit.
	checkNewcOf(t, "a symbolic link to the trailer", []impl.Entry{sym("s", trailer)})
	checkNoNewcOf(t, "a hard link to the trailer", []impl.Entry{file(trailer, ""), hard("h", trailer)})
}

// The whole archive of a file, a directory, a hard link and a symbolic link, as it stands there.
func TestNewcLayout(t *testing.T) {
	list := []impl.Entry{
		{Kind: impl.KFile, Path: "f", Mode: 0o4644, Uid: 8, Gid: 9, Time: 10, Body: "hi\n"},
		{Kind: impl.KDir, Path: "d", Mode: 0o755},
		{Kind: impl.KHard, Path: "d/h", Link: "f", Mode: 0o600, Uid: 4294967295, Gid: 4294967294, Time: 4294967295},
		{Kind: impl.KSym, Path: "s", Link: "../x", Mode: 0o777},
	}
	zeros := strings.Repeat("0", 32)
	for crc, magic := range newMagics {
		sum := func(digits string) string { return map[bool]string{false: "00000000", true: digits}[crc] }
		want := magic + "00000001" + "000089a4" + "00000008" + "00000009" + "00000002" + "0000000a" + "00000003" + zeros + "00000002" + sum("000000db") + "f\x00" + "hi\n\x00" +
			magic + "00000002" + "000041ed" + "00000000" + "00000000" + "00000002" + "00000000" + "00000000" + zeros + "00000002" + sum("00000000") + "d\x00" +
			magic + "00000001" + "00008180" + "ffffffff" + "fffffffe" + "00000002" + "ffffffff" + "00000000" + zeros + "00000004" + sum("00000000") + "d/h\x00\x00\x00" +
			magic + "00000004" + "0000a1ff" + "00000000" + "00000000" + "00000001" + "00000000" + "00000004" + zeros + "00000002" + sum("00000103") + "s\x00" + "../x" +
			magic + "00000000" + "00000000" + "00000000" + "00000000" + "00000001" + "00000000" + "00000000" + zeros + "0000000b" + sum("00000000") + "TRAILER!!!\x00\x00\x00\x00"
		if s, ok := impl.PutNewc(list, crc); s != want || !ok {
			t.Errorf("the archive is %q, want %q", s, want)
		}
		checkNewc(t, "an archive", want, list, crc)
		for _, nothing := range [][]impl.Entry{nil, {}} {
			if s, ok := impl.PutNewc(nothing, crc); s != newTrailer(crc) || !ok {
				t.Errorf("the archive of the empty list is %q, %v", s, ok)
			}
		}
		checkNewc(t, "the empty list", newTrailer(crc), nil, crc)
	}
}

// The promise, for all lists that fit.
func TestNewcListComesBack(t *testing.T) {
	for _, f := range newForms(t) {
		f.checkListsComeBack(t, odcEntries(), fitsNew)
	}
}

func TestNewcBodiesComeBack(t *testing.T) {
	for _, f := range newForms(t) {
		f.checkBodies(t, "070701", newTrailer(true))
		// Bodies whose sums are equal, among them those whose sum is 0.
		f.checkWritten(t, "equal sums", []impl.Entry{file("a", "ab"), file("b", "ba"), file("c", ""), file("d", "\x00"), file("e", "\x00\x00\x00\x00\x00")})
	}
}

// Names, bodies and links of every length modulo 4, one entry behind the other.
func TestNewcPadding(t *testing.T) {
	for _, f := range newForms(t) {
		f.checkPadding(t, 9)
	}
}

// A body may be an archive itself.
func TestNewcInNewc(t *testing.T) {
	for crc := range newMagics {
		inner := newcOf([]impl.Entry{file("in", "x"), hard("h", "in")}, crc)
		end := newTrailer(crc)
		checkNewcOf(t, "an archive in an archive", []impl.Entry{file("a", inner), file("b", inner[110:]), file("c", end), file("d", inner[:111]), hard("in", "a"), sym("s", end[:110])})
	}
}

func TestNewcManyEntries(t *testing.T) {
	for _, f := range newForms(t) {
		f.checkManyEntries(t)
	}
}

func TestPutNewcRefuses(t *testing.T) {
	for _, f := range newForms(t) {
		f.checkRefuses(t, odcEntries(), fitsNew)
	}
}

// The cards of an archive are those of its list, one behind the other, each from a multiple of 4 on.
func TestNewcIsCards(t *testing.T) {
	for _, f := range newForms(t) {
		f.checkIsCards(t)
	}
}
