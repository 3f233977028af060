package tests

import (
	"math/rand"
	"slices"
	"strings"
	"testing"

	"loop.example/g00413/impl"
)

// What holds for all formats that consist of padded cards, each in two variants.

// cardForm is such a format in one of its variants: what the program does, and how a card is written in other words than the program does.
type cardForm struct {
	name    string
	put     func(list []impl.Entry) (string, bool)
	get     func(s string) ([]impl.Entry, int)
	putCard func(c impl.Card) string
	getCard func(s string, i int) (impl.Card, int, int)
	text    func(c impl.Card) string
	unit    int
	reduced func(list []impl.Entry) []impl.Entry

	greatest int // the greatest number for all fields of a card
}

// texts returns the cards as they stand in an archive.
func (f cardForm) texts(cards []impl.Card) string {
	text := ""
	for _, c := range cards {
		text += f.text(c)
	}
	return text
}

// end returns the trailer.
func (f cardForm) end() string {
	return f.text(impl.Card{Count: 1, Path: trailer})
}

// archive returns the archive of a list, whether it is valid or not.
func (f cardForm) archive(list []impl.Entry) string {
	return f.texts(cardsFor(list)) + f.end()
}

// starts returns where the cards of a list start in its archive, and where its trailer does.
func (f cardForm) starts(list []impl.Entry) []int {
	starts := []int{0}
	for i, c := range cardsFor(list) {
		starts = append(starts, starts[i]+len(f.text(c)))
	}
	return starts
}

// checkWritten fails unless the list that fits is written as its cards and the trailer, and comes back from that.
func (f cardForm) checkWritten(t *testing.T, name string, list []impl.Entry) {
	t.Helper()
	want := f.archive(list)
	if s, ok := f.put(list); s != want || !ok {
		t.Errorf("%s: %s is written as %.300q, %v; want %.300q", f.name, name, s, ok, want)
	}
	if got, code := f.get(want); code != impl.RdOk || !impl.SameList(got, list) {
		t.Errorf("%s: %s is read as %+v, %d; want %+v", f.name, name, got, code, list)
	}
}

// checkNotWritten fails unless the list is refused.
func (f cardForm) checkNotWritten(t *testing.T, name string, list []impl.Entry) {
	t.Helper()
	if s, ok := f.put(list); s != "" || ok {
		t.Errorf("%s: %s is written as %d bytes, %v", f.name, name, len(s), ok)
	}
}

// checkNotRead fails unless the archive is refused with the code and nothing else is told.
func (f cardForm) checkNotRead(t *testing.T, name string, s string, want int) {
	t.Helper()
	if list, code := f.get(s); code != want || len(list) != 0 {
		t.Errorf("%s: %s is read as %d entries, %d; want %d", f.name, name, len(list), code, want)
	}
}

// checkListsComeBack fails unless all lists that fit do, among them those of one of these entries.
func (f cardForm) checkListsComeBack(t *testing.T, entries []impl.Entry, fits func(e impl.Entry) bool) {
	t.Helper()
	fit := 0
	kinds := map[int]int{}
	check := func(list []impl.Entry) {
		if !isList(list) {
			return
		}
		f.checkWritten(t, "a list that fits", list)
		fit++
		for _, e := range list {
			kinds[e.Kind]++
		}
	}
	for _, list := range someGnuLists() {
		check(f.reduced(list))
	}
	for _, e := range entries {
		list := []impl.Entry{file("a/f", "body"), e}
		if e.Kind == impl.KFile {
			list = []impl.Entry{e, hard("z/h", e.Path)}
		}
		if fits(e) {
			check(list)
		}
	}
	for kind := range 4 {
		if kinds[kind] < 200 {
			t.Errorf("there are only %d entries of the kind %d", kinds[kind], kind)
		}
	}
	if fit < 1000 {
		t.Errorf("only %d lists fit", fit)
	}
}

func (f cardForm) checkManyEntries(t *testing.T) {
	t.Helper()
	for _, length := range []int{1, 2, 29, 30} {
		f.checkWritten(t, "many files", files(length))
		var links []impl.Entry
		for i, e := range files(length) {
			if i > 0 {
				e = hard(e.Path, "f")
			}
			links = append(links, e)
		}
		f.checkWritten(t, "a file with many links", links)
	}
	f.checkWritten(t, "30 entries of every kind", f.reduced(greatList()))
	for _, length := range []int{31, 32, 60} {
		f.checkNotWritten(t, "too many entries", files(length))
		f.checkNotRead(t, "too many entries", f.archive(files(length)), impl.RdBad)
	}
}

// checkRefuses fails unless all invalid lists are refused, and those with one of the entries if it does not fit.
func (f cardForm) checkRefuses(t *testing.T, entries []impl.Entry, fits func(e impl.Entry) bool) {
	t.Helper()
	checkRefused(t, f.name, f.put)
	refused := 0
	for _, e := range entries {
		if fits(e) {
			continue
		}
		refused++
		for _, list := range [][]impl.Entry{{e}, {file("a/f", ""), dir("z"), e}, {e, file("z", "")}} {
			f.checkNotWritten(t, "an entry that does not fit", list)
		}
	}
	if refused < 200 {
		t.Errorf("only %d entries do not fit", refused)
	}
	f.checkNotWritten(t, "a 30th entry that does not fit", append(files(29), impl.Entry{Path: "z", Time: 4294967296}))
	f.checkNotWritten(t, "a hard link ahead of its file", []impl.Entry{hard("h", "f"), file("f", "x")})
	f.checkNotWritten(t, "a hard link to a hard link", []impl.Entry{file("f", "x"), hard("g", "f"), hard("h", "g")})
}

// checkIsCards fails unless the cards of an archive are those of its list, one behind the other, each from a multiple of the unit on.
func (f cardForm) checkIsCards(t *testing.T) {
	t.Helper()
	for _, list := range [][]impl.Entry{nil, oneOfEach(), files(30), f.reduced(greatList())} {
		s, ok := f.put(list)
		if !ok {
			t.Fatalf("%s: the list is refused", f.name)
		}
		var cards []impl.Card
		at := 0
		for at < len(s) {
			c, next, code := f.getCard(s, at)
			if code != impl.RdOk || at%f.unit != 0 || s[at:next] != f.putCard(c) {
				t.Fatalf("%s: the card at %d is %+v, %d", f.name, at, c, code)
			}
			cards = append(cards, c)
			at = next
		}
		want := append(impl.CardsOf(list), impl.Card{Count: 1, Path: trailer})
		if !slices.Equal(cards, want) {
			t.Errorf("%s: the archive has the cards %+v, want %+v", f.name, cards, want)
		}
	}
}

// checkPadding fails unless names, bodies and links of every length up to a number of bytes come back, one entry behind the other.
func (f cardForm) checkPadding(t *testing.T, most int) {
	t.Helper()
	for pathSize := 1; pathSize <= most; pathSize++ {
		for dataSize := range most {
			path, data := strings.Repeat("p", pathSize), strings.Repeat("d", dataSize)
			list := []impl.Entry{file(path, data), dir(path + "d"), file(path+"ee", ""), hard(path+"hhh", path)}
			if dataSize > 0 {
				list = append(list, sym(path+"ssss", data))
			}
			f.checkWritten(t, "padding", list)
		}
	}
}

// checkBodies fails unless bodies of many sizes come back, filled with one of the texts.
func (f cardForm) checkBodies(t *testing.T, fills ...string) {
	t.Helper()
	for _, size := range append(bodySizes(), 3, 4, 5, 6, 7, 8, 255, 256, 257, 2997, 2998) {
		for _, fill := range append(fills, "\x00", "x", "\xff", f.end()) {
			body := strings.Repeat(fill, size/len(fill)+1)[:size]
			f.checkWritten(t, "a body", []impl.Entry{file("a", body), hard("h", "a"), file("b", body)})
		}
	}
	f.checkWritten(t, "every byte", []impl.Entry{file("a", everyByte())})
	f.checkWritten(t, "files without a body", []impl.Entry{file("a", ""), file("b", ""), hard("h", "b"), hard("i", "a")})
}

// checkCuts fails unless the archives of the lists are refused with every length, so cut within the header, the name, the data and the padding of every card.
func (f cardForm) checkCuts(t *testing.T, judge func(t *testing.T, s string) int, lists ...[]impl.Entry) {
	t.Helper()
	for _, list := range append(lists, nil, []impl.Entry{dir("d")}, odcList()) {
		s := f.archive(list)
		starts := f.starts(list)
		if last := starts[len(starts)-1]; s[last:] != f.end() {
			t.Fatalf("%s: the trailer is not at %d", f.name, last)
		}
		for length := range len(s) {
			want := impl.RdCut
			if slices.Contains(starts, length) {
				want = impl.RdEnd
			}
			f.checkNotRead(t, "the first "+impl.DecText(length)+" bytes", s[:length], want)
			judge(t, s[:length])
		}
		f.checkWritten(t, "the whole archive", list)
	}
}

// checkGoesOn fails unless archives with something behind them are refused, ahead of what is wrong with the cards and with the trailer.
func (f cardForm) checkGoesOn(t *testing.T, wrong impl.Card, others ...string) {
	t.Helper()
	for _, list := range [][]impl.Entry{nil, {dir("d")}, odcList()} {
		s := f.archive(list)
		withData := f.texts(append(cardsFor(list), impl.Card{Count: 1, Path: trailer, Data: "x"}))
		for _, behind := range append(others, "x", "\x00", "\x00\x00", "\x00\x00\x00\x00", "\n", "0", f.end(), f.text(wrong), f.text(wrong)[:27], s, strings.Repeat("\x00", 512), strings.Repeat("g", 200), trailerText) {
			f.checkNotRead(t, "an archive that goes on", s+behind, impl.RdEnd)
			f.checkNotRead(t, "one of a wrong card that goes on", f.text(wrong)+s+behind, impl.RdEnd)
			f.checkNotRead(t, "one with data in the trailer that goes on", withData+behind, impl.RdEnd)
		}
	}
}

// otherTrailers returns cards with the Path of the trailer, but with data or another number.
func (f cardForm) otherTrailers() []impl.Card {
	plain := impl.Card{Count: 1, Path: trailer}
	var list []impl.Card
	for _, data := range []string{"x", "xy", "\x00", "\x00\x00", "\x00\x00\x00\x00", trailer, f.end(), strings.Repeat("d", 5000)} {
		c := plain
		c.Data = data
		list = append(list, c)
	}
	for _, set := range []func(c *impl.Card, n int){
		func(c *impl.Card, n int) { c.Ino = n }, func(c *impl.Card, n int) { c.Mode = n }, func(c *impl.Card, n int) { c.Uid = n },
		func(c *impl.Card, n int) { c.Gid = n }, func(c *impl.Card, n int) { c.Count = n }, func(c *impl.Card, n int) { c.Time = n },
	} {
		for _, n := range []int{0, 1, 2, 7, 256, 0o100644, f.greatest} {
			c := plain
			if set(&c, n); c != plain {
				list = append(list, c)
			}
		}
	}
	return list
}

// checkTrailers fails unless only the trailer of this form is one.
func (f cardForm) checkTrailers(t *testing.T, badEnds ...badEnd) {
	t.Helper()
	end := f.end()
	for _, list := range [][]impl.Entry{nil, {dir("d")}, odcList()} {
		ahead := f.texts(cardsFor(list))
		for _, c := range f.otherTrailers() {
			s := ahead + f.text(c)
			f.checkNotRead(t, "an archive with another trailer", s, impl.RdBad)
			f.checkNotRead(t, "one with two trailers", s+end, impl.RdEnd)
			f.checkNotRead(t, "one with another trailer, cut", s[:len(s)-1], impl.RdCut)
		}
		// A trailer with the fields of an entry is still one.
		for _, e := range oneOfEach()[:3] {
			e.Path = trailer
			s := f.archive(append(slices.Clone(list), e))
			f.checkNotRead(t, "an entry with the Path of the trailer", strings.TrimSuffix(s, end), impl.RdBad)
			f.checkNotRead(t, "one ahead of the trailer", s, impl.RdEnd)
		}
		for _, path := range []string{"", "TRAILER!!", "TRAILER!!!!", "trailer!!!", "TRAILER", trailer + "/", "./" + trailer, " " + trailer} {
			other := ahead + f.text(impl.Card{Count: 1, Path: path})
			f.checkNotRead(t, "an archive with no trailer, but "+path, other, impl.RdEnd)
			f.checkNotRead(t, "one with a trailer behind "+path, other+end, impl.RdBad)
		}
		for _, bad := range badEnds {
			f.checkNotRead(t, "a malformed trailer", ahead+bad.text, bad.code)
			f.checkNotRead(t, "a malformed trailer that goes on", ahead+bad.text+"x", bad.code)
		}
		f.checkNotRead(t, "a trailer without padding", ahead+strings.TrimRight(end, "\x00")+"\x00", impl.RdCut)
		f.checkNotRead(t, "an archive without a trailer", ahead, impl.RdEnd)
		f.checkWritten(t, "one with a trailer", list)
	}
}

// badEnd is a trailer that is malformed, and the code of that.
type badEnd struct {
	text string
	code int
}

// checkWrongCards fails unless cards that are well formed, but of no list, are refused, and that counts after all else.
func (f cardForm) checkWrongCards(t *testing.T, badEnds ...badEnd) {
	t.Helper()
	refused := 0
	end := f.end()
	check := func(name string, cards []impl.Card) {
		t.Helper()
		refused++
		text := f.texts(cards)
		f.checkNotRead(t, name, text+end, impl.RdBad)
		f.checkNotRead(t, name+", without an end", text, impl.RdEnd)
		f.checkNotRead(t, name+", that goes on", text+end+"x", impl.RdEnd)
		f.checkNotRead(t, name+", cut", text+end[:len(end)-1], impl.RdCut)
		for _, bad := range badEnds {
			f.checkNotRead(t, name+", with a malformed end", text+bad.text, bad.code)
		}
	}
	for name, list := range greatInvalidLists() {
		// Cards do not tell of each of these what is wrong with it.
		if cards := cardsFor(f.reduced(list)); len(sources(cards)) == 0 {
			check(name, cards)
		}
	}
	if refused < 8 {
		t.Errorf("only %d invalid lists have cards", refused)
	}
	cards := cardsFor(odcList())
	for i, c := range cards {
		for _, changed := range otherCards(c) {
			whole := slices.Concat(cards[:i], []impl.Card{changed}, cards[i+1:])
			// Only what has a form in an archive, and is no trailer.
			if f.putCard(changed) != "" && !strings.Contains(changed.Path, "\x00") && changed.Path != trailer && len(sources(whole)) == 0 {
				check("a changed card", whole)
			}
		}
		if i > 0 {
			check("the cards without the first ones", cards[i:])
		}
		check("a card twice", slices.Insert(slices.Clone(cards), i, c))
	}
	if refused < 300 {
		t.Errorf("only %d are refused", refused)
	}
	f.checkWritten(t, "the cards", odcList())
}

// checkAnyCards judges archives of cards in any order, with what is no card of this form.
func (f cardForm) checkAnyCards(t *testing.T, judge func(t *testing.T, s string) int, others ...string) {
	t.Helper()
	card := func(ino int, count int, mode int, path string, data string) string {
		return f.text(impl.Card{Ino: ino, Mode: mode, Count: count, Path: path, Data: data})
	}
	a := card(1, 1, 0o100644, "a", "hello")
	parts := append([]string{
		a, card(1, 2, 0o100644, "a", "hello"), card(1, 2, 0o100644, "h", ""), card(1, 2, 0o040755, "d", ""), card(2, 2, 0o040755, "d", ""),
		card(2, 1, 0o120777, "s", "a"), f.end(), f.text(impl.Card{Path: trailer}), a[:len(a)-5],
	}, others...)
	accepted := 0
	for s := range mixes(parts, "") {
		if judge(t, s) == impl.RdOk {
			accepted++
		}
	}
	if accepted < 10 {
		t.Errorf("%s: only %d archives are accepted", f.name, accepted)
	}
}

// checkNewMemory fails if a result shares memory with an argument, or a part of it with another one.
func (f cardForm) checkNewMemory(t *testing.T) {
	t.Helper()
	list := []impl.Entry{
		{Kind: impl.KFile, Path: strings.Clone(longPath(90)), Body: strings.Repeat("b", 1000)},
		{Kind: impl.KHard, Path: strings.Clone(longPath(120)), Link: strings.Clone(longPath(90))},
		{Kind: impl.KHard, Path: strings.Clone(longPath(150)), Link: strings.Clone(longPath(90))},
		{Kind: impl.KSym, Path: strings.Clone(longPath(180)), Link: strings.Repeat("l", 150)},
		{Kind: impl.KDir, Path: strings.Clone(longPath(200))},
	}
	s, ok := f.put(list)
	if !ok {
		t.Fatalf("%s: the list is refused", f.name)
	}
	checkApart(t, f.name+", an archive", []string{s}, textsOf(list))
	first, _ := f.get(s)
	second, _ := f.get(s)
	checkApart(t, f.name+", a list", append(textsOf(first), textsOf(second)...), []string{s})
	first[0] = impl.Entry{Path: "changed"}
	if !impl.SameList(second, list) {
		t.Errorf("%s: a list is kept", f.name)
	}
	for at := 0; at < len(s); {
		c, next, code := f.getCard(s, at)
		if code != impl.RdOk {
			t.Fatalf("%s: the card at %d has the code %d", f.name, at, code)
		}
		checkApart(t, f.name+", a card", textsOfCards([]impl.Card{c}), []string{s})
		checkApart(t, f.name+", the text of a card", []string{f.putCard(c)}, textsOfCards([]impl.Card{c}))
		at = next
	}
}

// checkChangesNothing fails if an argument is changed, or what lies behind the end of a list.
func (f cardForm) checkChangesNothing(t *testing.T) {
	t.Helper()
	whole := append(f.reduced(greatList()), files(20)...)
	before := slices.Clone(whole)
	for length := range len(whole) + 1 {
		s, _ := f.put(whole[:length])
		list, _ := f.get(s)
		for i := range list {
			list[i] = impl.Entry{Path: "changed"}
		}
		_ = append(list, impl.Entry{Path: "changed"})
		if !impl.SameList(whole, before) {
			t.Fatalf("%s: with %d entries the argument is now %v", f.name, length, whole)
		}
	}
}

// checkAnyArguments fails unless what is put is refused or written as it should be, whatever it is.
func (f cardForm) checkAnyArguments(t *testing.T, random *rand.Rand, text string) {
	t.Helper()
	n := func() int { return random.Int() >> random.Intn(64) * (random.Intn(5) - 1) }
	c := impl.Card{Ino: n(), Mode: n(), Uid: n(), Gid: n(), Count: n(), Time: n(), Path: text, Data: text}
	if got := f.putCard(c); got != "" && got != f.text(c) {
		t.Fatalf("%s: %+v is written as %q", f.name, c, got)
	}
	e := impl.Entry{Kind: random.Intn(6) - 1, Path: text, Link: text, Mode: n(), Uid: n(), Body: text}
	if s, ok := f.put([]impl.Entry{e}); ok && (s != f.archive([]impl.Entry{e}) || !isEntry(e)) || !ok && s != "" {
		t.Fatalf("%s: %+v is written as %q, %v", f.name, e, s, ok)
	}
}

// checkManyCards fails unless all cards are gone through, though there are too many.
func (f cardForm) checkManyCards(t *testing.T, card impl.Card, badEnds ...badEnd) {
	t.Helper()
	text, end := strings.Repeat(f.text(card), 20000), f.end()
	f.checkNotRead(t, "20000 cards", text+end, impl.RdBad)
	f.checkNotRead(t, "20000 cards without an end", text, impl.RdEnd)
	f.checkNotRead(t, "20000 cards and half an end", text+end[:len(end)-1], impl.RdCut)
	for _, bad := range badEnds {
		f.checkNotRead(t, "20000 cards and a malformed end", text+bad.text, bad.code)
	}
}
