package tests

import (
	"strings"
	"testing"

	"loop.example/g00413/impl"
)

// Promise 9, a list that fits is recovered from binary cpio: BinFits, PutCpio, and GetCpio of what it wrote.

// binTrailer is what stands at the end of an archive.
func binTrailer(high bool) string {
	zeros := strings.Repeat("\x00", 10)
	return half(29127, high) + zeros + half(1, high) + zeros[:6] + half(11, high) + zeros[:4] + trailer + "\x00\x00"
}

// binForms returns the format in both byte orders.
func binForms(t *testing.T) []cardForm {
	var forms []cardForm
	for _, high := range []bool{false, true} {
		forms = append(forms, cardForm{
			name: map[bool]string{false: "low", true: "high"}[high],
			put:  func(list []impl.Entry) (string, bool) { return impl.PutCpio(list, high) },
			get: func(s string) ([]impl.Entry, int) {
				list, got, code := impl.GetCpio(s)
				if got != (high && code == impl.RdOk) {
					t.Errorf("GetCpio of %.200q with the byte order %v returns %v, %d", s, high, got, code)
				}
				return list, code
			},
			putCard:  func(c impl.Card) string { return impl.PutBin(c, high) },
			getCard:  func(s string, i int) (impl.Card, int, int) { return impl.GetBin(s, i, high) },
			text:     func(c impl.Card) string { return binText(c, high) },
			unit:     2,
			reduced:  reducedToBin,
			greatest: 65535,
		})
	}
	return forms
}

// binTexts returns the cards of a list as they stand in an archive, whether it is valid or not.
func binTexts(list []impl.Entry, high bool) string {
	text := ""
	for _, c := range cardsFor(list) {
		text += binText(c, high)
	}
	return text
}

// cpioOf returns the archive of a list, whether it is valid or not.
func cpioOf(list []impl.Entry, high bool) string {
	return binTexts(list, high) + binTrailer(high)
}

// fitsBin says which entries fit in other words than the program does.
func fitsBin(e impl.Entry) bool {
	return isEntry(e) && e.Path != trailer && e.User+e.Group == "" && e.Uid < 1<<16 && e.Gid < 1<<16 && e.Time < 1<<32
}

// reducedToBin returns the list without what does not fit.
func reducedToBin(list []impl.Entry) []impl.Entry {
	list = withoutUsers(list)
	for i := range list {
		e := &list[i]
		e.Uid, e.Gid, e.Time = min(e.Uid, 1<<16-1), min(e.Gid, 1<<16-1), min(e.Time, 1<<32-1)
	}
	return list
}

// binEntries returns entries of every kind, valid and not, at and beyond the limits of this format.
func binEntries() []impl.Entry {
	list := odcEntries()
	for _, plain := range oneOfEach() {
		for _, time := range []int{65537, 131072, 16909060, 4294901760, 4294967294, 4294967295, 4294967296, 4295032832} {
			e := plain
			e.Time = time
			list = append(list, e)
		}
	}
	return list
}

func checkCpio(t *testing.T, name string, s string, list []impl.Entry, high bool) {
	t.Helper()
	if got, gotHigh, code := impl.GetCpio(s); code != impl.RdOk || gotHigh != high || !impl.SameList(got, list) {
		t.Errorf("GetCpio of %s reads %+v, want %+v, and returns %v, %d; want %v", name, got, list, gotHigh, code, high)
	}
}

// checkNoCpio fails unless GetCpio refuses s with the code and tells nothing else.
func checkNoCpio(t *testing.T, name string, s string, want int) {
	t.Helper()
	if got, high, code := impl.GetCpio(s); code != want || high || len(got) != 0 {
		t.Errorf("GetCpio of %s reads %d entries and returns %v, %d; want %d", name, len(got), high, code, want)
	}
}

// checkCpioOf fails unless the list that fits is written as its cards and the trailer, and comes back from that, in both byte orders.
func checkCpioOf(t *testing.T, name string, list []impl.Entry) {
	t.Helper()
	for _, f := range binForms(t) {
		f.checkWritten(t, name, list)
	}
}

// checkNoCpioOf fails unless PutCpio refuses the list.
func checkNoCpioOf(t *testing.T, name string, list []impl.Entry) {
	t.Helper()
	for _, f := range binForms(t) {
		f.checkNotWritten(t, name, list)
	}
}

func TestBinFits(t *testing.T) {
	fit, beyond := 0, 0
	for _, e := range binEntries() {
		got := impl.BinFits(e)
		if got != fitsBin(e) {
			t.Errorf("BinFits(%+v) = %v", e, got)
		}
		if got {
			fit++
		} else if isEntry(e) {
			beyond++
		}
	}
	if fit < 200 || beyond < 100 {
		t.Errorf("%d entries fit, and %d valid ones do not", fit, beyond)
	}
}

func TestBinLimits(t *testing.T) {
	for _, kind := range oneOfEach() {
		for _, c := range []struct {
			name   string
			change func(e *impl.Entry)
			want   bool
		}{
			{"nothing else", func(e *impl.Entry) {}, true},
			{"Uid at the limit", func(e *impl.Entry) { e.Uid = 65535 }, true},
			{"Uid beyond", func(e *impl.Entry) { e.Uid = 65536 }, false},
			{"a Uid that is 0 in 16 bits", func(e *impl.Entry) { e.Uid = 1 << 31 }, false},
			{"a negative Uid", func(e *impl.Entry) { e.Uid = -1 }, false},
			{"Gid at the limit", func(e *impl.Entry) { e.Gid = 65535 }, true},
			{"Gid beyond", func(e *impl.Entry) { e.Gid = 65536 }, false},
			{"the greatest Gid", func(e *impl.Entry) { e.Gid = 4294967295 }, false},
			{"a negative Gid", func(e *impl.Entry) { e.Gid = -65536 }, false},
			{"Time at the limit", func(e *impl.Entry) { e.Time = 4294967295 }, true},
			{"Time beyond", func(e *impl.Entry) { e.Time = 4294967296 }, false},
			{"the greatest Time", func(e *impl.Entry) { e.Time = 99999999999 }, false},
			{"a negative Time", func(e *impl.Entry) { e.Time = -1 }, false},
			{"another upper half of Time", func(e *impl.Entry) { e.Time = 0x12345678 }, true},
			{"all at the limits", func(e *impl.Entry) { e.Mode, e.Uid, e.Gid, e.Time = 4095, 65535, 65535, 4294967295 }, true},
			{"a Mode beyond its limit", func(e *impl.Entry) { e.Mode = 4096 }, false},
			{"a User", func(e *impl.Entry) { e.User = "u" }, false},
			{"a Group", func(e *impl.Entry) { e.Group = "g" }, false},
			{"a User and a Group", func(e *impl.Entry) { e.User, e.Group = "u", "g" }, false},
			{"the Path of the trailer", func(e *impl.Entry) { e.Path = trailer }, false},
			{"the Path of the trailer and more", func(e *impl.Entry) { e.Path = trailer + "!" }, true},
			{"the Path of the trailer in a directory", func(e *impl.Entry) { e.Path = "a/" + trailer }, true},
			{"the longest Path", func(e *impl.Entry) { e.Path = longPath(200) }, true},
			{"a Path beyond", func(e *impl.Entry) { e.Path = longPath(201) }, false},
			{"a Path with a NUL", func(e *impl.Entry) { e.Path = "a\x00b" }, false},
			{"no Path", func(e *impl.Entry) { e.Path = "" }, false},
			{"an unknown kind", func(e *impl.Entry) { e.Kind = 4 }, false},
		} {
			e := kind
			c.change(&e)
			if got := impl.BinFits(e); got != c.want {
				t.Errorf("BinFits of an entry of the kind %d with %s is %v", e.Kind, c.name, got)
			}
			list := []impl.Entry{file("a/f", "body"), e}
			if e.Kind == impl.KFile {
				list = list[1:]
			}
			if c.want {
				checkCpioOf(t, c.name, list)
			} else {
				checkNoCpioOf(t, c.name, list)
			}
		}
	}
	if impl.BinFits(impl.Entry{}) || !impl.BinFits(impl.Entry{Path: "a"}) {
		t.Error("the zero entry fits, or the smallest one does not")
	}
	// The Link of a symbolic link is data, and that of a hard link the Path of an entry that does not fit.
	checkCpioOf(t, "a symbolic link to the trailer", []impl.Entry{sym("s", trailer)})
	checkNoCpioOf(t, "a hard link to the trailer", []impl.Entry{file(trailer, ""), hard("h", trailer)})
}

// The whole archive of a file, a directory, a hard link and a symbolic link, as it stands there.
func TestCpioLayout(t *testing.T) {
	list := []impl.Entry{
		{Kind: impl.KFile, Path: "f", Mode: 0o4644, Uid: 8, Gid: 9, Time: 10, Body: "hi\n"},
		{Kind: impl.KDir, Path: "dd", Mode: 0o755},
		{Kind: impl.KHard, Path: "d/h", Link: "f", Mode: 0o600, Uid: 65535, Gid: 65534, Time: 0x01020304},
		{Kind: impl.KSym, Path: "s", Link: "../x", Mode: 0o777},
	}
	low := "\xc7\x71\x00\x00\x01\x00\xa4\x89\x08\x00\x09\x00\x02\x00\x00\x00\x00\x00\x0a\x00\x02\x00\x00\x00\x03\x00" + "f\x00" + "hi\n\x00" +
		"\xc7\x71\x00\x00\x02\x00\xed\x41\x00\x00\x00\x00\x02\x00\x00\x00\x00\x00\x00\x00\x03\x00\x00\x00\x00\x00" + "dd\x00\x00" +
		"\xc7\x71\x00\x00\x01\x00\x80\x81\xff\xff\xfe\xff\x02\x00\x00\x00\x02\x01\x04\x03\x04\x00\x00\x00\x00\x00" + "d/h\x00" +
		"\xc7\x71\x00\x00\x04\x00\xff\xa1\x00\x00\x00\x00\x01\x00\x00\x00\x00\x00\x00\x00\x02\x00\x00\x00\x04\x00" + "s\x00" + "../x"
	lowEnd := "\xc7\x71\x00\x00\x00\x00\x00\x00\x00\x00\x00\x00\x01\x00\x00\x00\x00\x00\x00\x00\x0b\x00\x00\x00\x00\x00" + "TRAILER!!!\x00\x00"
	high := "\x71\xc7\x00\x00\x00\x01\x89\xa4\x00\x08\x00\x09\x00\x02\x00\x00\x00\x00\x00\x0a\x00\x02\x00\x00\x00\x03" + "f\x00" + "hi\n\x00" +
		"\x71\xc7\x00\x00\x00\x02\x41\xed\x00\x00\x00\x00\x00\x02\x00\x00\x00\x00\x00\x00\x00\x03\x00\x00\x00\x00" + "dd\x00\x00" +
		"\x71\xc7\x00\x00\x00\x01\x81\x80\xff\xff\xff\xfe\x00\x02\x00\x00\x01\x02\x03\x04\x00\x04\x00\x00\x00\x00" + "d/h\x00" +
		"\x71\xc7\x00\x00\x00\x04\xa1\xff\x00\x00\x00\x00\x00\x01\x00\x00\x00\x00\x00\x00\x00\x02\x00\x00\x00\x04" + "s\x00" + "../x"
	highEnd := "\x71\xc7\x00\x00\x00\x00\x00\x00\x00\x00\x00\x00\x00\x01\x00\x00\x00\x00\x00\x00\x00\x0b\x00\x00\x00\x00" + "TRAILER!!!\x00\x00"
	for _, c := range []struct {
		high      bool
		want, end string
	}{{false, low + lowEnd, lowEnd}, {true, high + highEnd, highEnd}} {
		if s, ok := impl.PutCpio(list, c.high); s != c.want || !ok {
			t.Errorf("the archive is %q, want %q", s, c.want)
		}
		checkCpio(t, "an archive", c.want, list, c.high)
		for _, nothing := range [][]impl.Entry{nil, {}} {
			if s, ok := impl.PutCpio(nothing, c.high); s != c.end || !ok {
				t.Errorf("the archive of the empty list is %q, %v", s, ok)
			}
		}
		checkCpio(t, "the empty list", c.end, nil, c.high)
		if binTrailer(c.high) != c.end {
			t.Errorf("the tests end an archive with %q", binTrailer(c.high))
		}
	}
}

// The promise, for all lists that fit.
func TestCpioListComesBack(t *testing.T) {
	for _, f := range binForms(t) {
		f.checkListsComeBack(t, binEntries(), fitsBin)
	}
}

func TestCpioBodiesComeBack(t *testing.T) {
	for _, f := range binForms(t) {
		f.checkBodies(t, "\x71\xc7", "\xc7\x71\x00")
	}
}

// Names, bodies and links of odd and even length, one entry behind the other. Every card starts at an even index.
func TestCpioPadding(t *testing.T) {
	for _, f := range binForms(t) {
		f.checkPadding(t, 6)
	}
	for _, c := range []struct {
		path, body string
		want       int
	}{
		{"p", "", 28}, {"p", "d", 30}, {"p", "dd", 30}, {"p", "ddd", 32},
		{"pp", "", 30}, {"pp", "d", 32}, {"pp", "dd", 32}, {"pp", "ddd", 34},
		{"ppp", "", 30}, {"pppp", "d", 34},
	} {
		for high := range binOrders {
			// The trailer has 38 bytes.
			if s, _ := impl.PutCpio([]impl.Entry{file(c.path, c.body)}, high); len(s) != c.want+38 {
				t.Errorf("the card of %q with %q has %d bytes, want %d", c.path, c.body, len(s)-38, c.want)
			}
		}
	}
}

// A body may be an archive itself.
func TestCpioInCpio(t *testing.T) {
	for high := range binOrders {
		inner := cpioOf([]impl.Entry{file("in", "x"), hard("h", "in")}, high)
		end := binTrailer(high)
		checkCpioOf(t, "an archive in an archive", []impl.Entry{file("a", inner), file("b", inner[26:]), file("c", end), file("d", inner[:27]), hard("in", "a"), sym("s", end[26:36])})
	}
}

func TestCpioManyEntries(t *testing.T) {
	for _, f := range binForms(t) {
		f.checkManyEntries(t)
	}
}

func TestPutCpioRefuses(t *testing.T) {
	for _, f := range binForms(t) {
		f.checkRefuses(t, binEntries(), fitsBin)
	}
	checkNoCpioOf(t, "a 30th entry that does not fit", append(files(29), impl.Entry{Path: "z", Uid: 65536}))
}

// The cards of an archive are those of its list, one behind the other, each from an even index on.
func TestCpioIsCards(t *testing.T) {
	for _, f := range binForms(t) {
		f.checkIsCards(t)
	}
}
