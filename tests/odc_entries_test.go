package tests

import (
	"math"
	"slices"
	"strings"
	"testing"

	"loop.example/g00413/impl"
)

// Promise 7, cards that EntriesOf accepts are those of its list: EntriesOf of what CardsOf did not make.

// candidates returns the valid entries that a card among others may stand for.
func candidates(cards []impl.Card, c impl.Card) []impl.Entry {
	plain := impl.Entry{Path: c.Path, Uid: c.Uid, Gid: c.Gid, Time: c.Time}
	var list []impl.Entry
	add := func(kind int, link string, body string) {
		e := plain
		e.Kind, e.Link, e.Body, e.Mode = kind, link, body, c.Mode-typeBits[kind]
		if isEntry(e) {
			list = append(list, e)
		}
	}
	add(impl.KFile, "", c.Data)
	add(impl.KDir, "", "")
	add(impl.KSym, c.Data, "")
	for _, other := range cards {
		add(impl.KHard, other.Path, "")
	}
	return list
}

// sources looks for the valid lists with these cards among all that they may stand for.
func sources(cards []impl.Card) [][]impl.Entry {
	found := [][]impl.Entry{nil}
	for i, c := range cards {
		var longer [][]impl.Entry
		for _, list := range found {
			for _, e := range candidates(cards, c) {
				next := append(list[:i:i], e)
				// What comes later changes neither.
				if isList(next) && cardsFor(next)[i].Ino == c.Ino {
					longer = append(longer, next)
				}
			}
		}
		found = longer
	}
	return slices.DeleteFunc(found, func(list []impl.Entry) bool { return !slices.Equal(cardsFor(list), cards) })
}

// judgeCards fails unless EntriesOf returns the only list with these cards, or nothing if there is none. It tells whether there is one.
func judgeCards(t *testing.T, cards []impl.Card) bool {
	t.Helper()
	want := sources(cards)
	if len(want) > 1 {
		t.Fatalf("%+v are the cards of %d lists", cards, len(want))
	}
	got, ok := impl.EntriesOf(cards)
	if ok != (len(want) == 1) || ok && !impl.SameList(got, want[0]) || !ok && len(got) != 0 {
		t.Fatalf("EntriesOf(%+v) is %+v, %v; want %+v", cards, got, ok, want)
	}
	if ok && !slices.Equal(impl.CardsOf(got), cards) {
		t.Fatalf("%+v has other cards than %+v", got, cards)
	}
	return ok
}

// otherCards returns the card with one field after the other changed.
func otherCards(c impl.Card) []impl.Card {
	var list []impl.Card
	add := func(change func(c *impl.Card)) {
		changed := c
		change(&changed)
		list = append(list, changed)
	}
	for _, n := range []int{math.MinInt, -1, 0, 1, 2, 3, 4, 5, 30, 31, 4095, 4096, 262144, math.MaxInt} {
		add(func(c *impl.Card) { c.Ino = n })
		add(func(c *impl.Card) { c.Count = n })
		add(func(c *impl.Card) { c.Mode = n })
		add(func(c *impl.Card) { c.Uid = n })
		add(func(c *impl.Card) { c.Gid = n })
		add(func(c *impl.Card) { c.Time = n })
	}
	for kind := range 1 << 5 {
		add(func(c *impl.Card) { c.Mode = kind<<12 | c.Mode&4095 })
	}
	for _, bits := range []int{-1 << 12, -1 << 15, 1 << 40, 1 << 62, math.MinInt} {
		add(func(c *impl.Card) { c.Mode |= bits })
	}
	for _, s := range []string{"", "a", "b", "b/c", "h", "a b", "\x00", strings.Repeat("x", 150), strings.Repeat("x", 151), strings.Repeat("x", 3000), strings.Repeat("x", 3001)} {
		add(func(c *impl.Card) { c.Data = s })
	}
	for _, s := range []string{"", "a", "b", "b/c", "h", "new", "/", "a/", "TRAILER!!!", longPath(200), longPath(201)} {
		add(func(c *impl.Card) { c.Path = s })
	}
	return list
}

// Every change of a card of every short list, and of two fields of the cards of some.
func TestEntriesOfChangedCards(t *testing.T) {
	judged, accepted := 0, 0
	judge := func(cards []impl.Card) {
		judged++
		if judgeCards(t, cards) {
			accepted++
		}
	}
	for _, list := range lists(3) {
		if !isList(list) {
			continue
		}
		cards := impl.CardsOf(list)
		for i, c := range cards {
			for _, changed := range otherCards(c) {
				judge(slices.Concat(cards[:i], []impl.Card{changed}, cards[i+1:]))
			}
		}
	}
	for _, list := range [][]impl.Entry{{file("a", "b")}, {file("a", ""), hard("h", "a")}, {dir("d"), sym("s", "a")}} {
		cards := impl.CardsOf(list)
		for i, c := range cards {
			for _, once := range otherCards(c) {
				for _, twice := range otherCards(once) {
					judge(slices.Concat(cards[:i], []impl.Card{twice}, cards[i+1:]))
				}
			}
		}
	}
	if judged < 50000 || accepted < 5000 || accepted > judged/2 {
		t.Errorf("%d of %d are accepted", accepted, judged)
	}
}

// Cards in any order, each with every inode number and link count.
func TestEntriesOfAnyCards(t *testing.T) {
	var few []impl.Card
	for ino := range 4 {
		for count := range 4 {
			few = append(few,
				impl.Card{Ino: ino, Mode: 0o100644, Count: count, Path: "f" + impl.DecText(count), Data: "f"},
				impl.Card{Ino: ino, Mode: 0o100644, Count: count, Path: "e" + impl.DecText(count)},
				impl.Card{Ino: ino, Mode: 0o040755, Count: count, Path: "d"},
				impl.Card{Ino: ino, Mode: 0o120777, Count: count, Path: "s", Data: "f"})
		}
	}
	accepted := 0
	for _, first := range few {
		for _, second := range append(few, impl.Card{}) {
			if judgeCards(t, []impl.Card{first, second}) {
				accepted++
			}
		}
	}
	// Three with the right counts for a file and two others.
	for _, ino := range []int{0, 1, 2, 3, 4} {
		for _, other := range []int{0, 1, 2, 3, 4} {
			for _, data := range []string{"", "x"} {
				for counts := range 64 {
					cards := []impl.Card{
						{Ino: 1, Mode: 0o100644, Count: counts % 4, Path: "f", Data: "body"},
						{Ino: ino, Mode: 0o100600, Count: counts / 4 % 4, Path: "g", Data: data},
						{Ino: other, Mode: 0o100644, Count: counts / 16, Path: "h", Data: data},
					}
					if judgeCards(t, cards) {
						accepted++
					}
				}
			}
		}
	}
	if accepted < 15 {
		t.Errorf("only %d are accepted", accepted)
	}
}

// Each rule by its name, for a list with all that can go wrong.
func TestEntriesOfWrongCards(t *testing.T) {
	cards := impl.CardsOf([]impl.Entry{file("f", "body"), dir("d"), hard("h", "f"), sym("s", "f"), file("e", ""), hard("i", "f")})
	change := func(i int, change func(c *impl.Card)) []impl.Card {
		changed := slices.Clone(cards)
		change(&changed[i])
		return changed
	}
	if !judgeCards(t, cards) {
		t.Fatal("the cards are refused")
	}
	for i, c := range cards {
		for _, n := range []int{math.MinInt, math.MinInt + 1, -1, 0, 1, 2, 3, 4, 5, 6, 7, 8, 30, 1 << 32, math.MaxInt} {
			if n != c.Ino {
				checkNoEntries(t, "another Ino", change(i, func(c *impl.Card) { c.Ino = n })...)
			}
			if n != c.Count {
				checkNoEntries(t, "another Count", change(i, func(c *impl.Card) { c.Count = n })...)
			}
		}
		for kind := range 16 {
			if kind != 4 && kind != 8 && kind != 10 {
				checkNoEntries(t, "an unknown kind", change(i, func(c *impl.Card) { c.Mode = kind<<12 | c.Mode&4095 })...)
			}
		}
		for _, mode := range []int{-1, -32768, c.Mode + 65536, c.Mode - 65536, c.Mode + 1<<40, math.MinInt, math.MaxInt} {
			checkNoEntries(t, "a Mode of more or fewer bits", change(i, func(c *impl.Card) { c.Mode = mode })...)
		}
	}
	for _, data := range []string{"x", "f", "\x00", "body"} {
		checkNoEntries(t, "a directory with Data", change(1, func(c *impl.Card) { c.Data = data })...)
		checkNoEntries(t, "a hard link with Data", change(2, func(c *impl.Card) { c.Data = data })...)
		checkNoEntries(t, "the last hard link with Data", change(5, func(c *impl.Card) { c.Data = data })...)
	}
	for _, data := range []string{"", "a b", "\x00", strings.Repeat("l", 151)} {
		checkNoEntries(t, "a symbolic link with a wrong Link", change(3, func(c *impl.Card) { c.Data = data })...)
	}
	checkNoEntries(t, "a directory that shares the number of a file", change(1, func(c *impl.Card) { c.Ino = 1 })...)
	checkNoEntries(t, "no file for the hard links", cards[1:]...)
	checkNoEntries(t, "no hard links for the file", cards[:2]...)
	checkNoEntries(t, "the cards twice", slices.Concat(cards, cards)...)
}

// A link that leads nowhere, with the link counts that it would have.
func TestEntriesOfLinksThatLeadNowhere(t *testing.T) {
	link := func(ino int, count int) impl.Card {
		return impl.Card{Ino: ino, Mode: 0o100644, Count: count, Path: "h"}
	}
	f := impl.Card{Ino: 1, Mode: 0o100644, Count: 1, Path: "f", Data: "x"}
	d := impl.Card{Ino: 1, Mode: 0o040755, Count: 2, Path: "d"}
	s := impl.Card{Ino: 1, Mode: 0o120777, Count: 1, Path: "s", Data: "f"}
	for _, ino := range []int{math.MinInt, -2, -1, 0, 3, 4, 30, 31, math.MaxInt} {
		for count := range 4 {
			checkNoEntries(t, "a link to no card", f, link(ino, count))
		}
	}
	for count := range 4 {
		for _, other := range []impl.Card{d, s} {
			checkNoEntries(t, "a link to no file", other, link(1, count))
			other.Count = count
			checkNoEntries(t, "a link to no file, counted there", other, link(1, count))
		}
		shared := f
		shared.Count = count
		third := link(2, count)
		third.Path = "i"
		checkNoEntries(t, "a link to a link", shared, link(1, count), third)
		self := link(2, count)
		self.Data = "x"
		if got := judgeCards(t, []impl.Card{f, self}); got != (count == 1) {
			t.Errorf("a file of its own with the count %d: %v", count, got)
		}
	}
	f.Count = 2
	if !judgeCards(t, []impl.Card{f, link(1, 2)}) {
		t.Error("a link to a file is refused")
	}
	f.Ino = 2
	checkNoEntries(t, "a link to a later file", link(2, 2), f)
}
