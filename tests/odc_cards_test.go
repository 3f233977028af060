package tests

import (
	"slices"
	"strings"
	"testing"

	"loop.example/g00413/impl"
)

// Promise 7, a valid list is recovered from its cards, except for users and groups: CardsOf, and EntriesOf of what it made.

// typeBits is what the mode of a card says of the kind.
var typeBits = map[int]int{impl.KFile: 0o100000, impl.KDir: 0o040000, impl.KSym: 0o120000, impl.KHard: 0o100000}

// cardsFor says what the cards of a list are, valid or not, in other words than the program does.
func cardsFor(list []impl.Entry) []impl.Card {
	var targets []string // the Paths of the entries whose places are the inode numbers
	for _, e := range list {
		targets = append(targets, map[bool]string{true: e.Link, false: e.Path}[e.Kind == impl.KHard])
	}
	var cards []impl.Card
	for i, e := range list {
		c := impl.Card{Mode: e.Mode + typeBits[e.Kind], Uid: e.Uid, Gid: e.Gid, Time: e.Time, Path: e.Path}
		c.Ino = 1 + slices.Index(pathsIn(list), targets[i])
		c.Data = map[int]string{impl.KFile: e.Body, impl.KSym: e.Link}[e.Kind]
		for _, target := range targets {
			if target == targets[i] {
				c.Count++
			}
		}
		if e.Kind == impl.KDir {
			c.Count = 2
		}
		cards = append(cards, c)
	}
	return cards
}

// withoutUsers returns what cards tell of a list.
func withoutUsers(list []impl.Entry) []impl.Entry {
	list = slices.Clone(list)
	for i := range list {
		list[i].User, list[i].Group = "", ""
	}
	return list
}

// checkCards fails unless the cards of the valid list are these, and the list comes back from them.
func checkCards(t *testing.T, name string, list []impl.Entry, want []impl.Card) {
	t.Helper()
	if got := impl.CardsOf(list); !slices.Equal(got, want) {
		t.Fatalf("CardsOf of %s is %+v, want %+v", name, got, want)
	}
	if got, ok := impl.EntriesOf(want); !ok || !impl.SameList(got, withoutUsers(list)) {
		t.Errorf("EntriesOf of the cards of %s is %+v, %v", name, got, ok)
	}
}

// checkNoEntries fails unless there is no list with these cards.
func checkNoEntries(t *testing.T, name string, cards ...impl.Card) {
	t.Helper()
	if list, ok := impl.EntriesOf(cards); ok || len(list) != 0 {
		t.Errorf("EntriesOf of %s, %+v, is %+v, %v", name, cards, list, ok)
	}
}

// The example of the document.
func TestCardsOfAFileAndItsLink(t *testing.T) {
	cards := impl.CardsOf([]impl.Entry{{Kind: impl.KFile, Path: "f", Mode: 420}, {Kind: impl.KHard, Path: "h", Link: "f"}})
	if len(cards) != 2 || cards[0].Ino != 1 || cards[1].Ino != 1 || cards[0].Mode != 33188 || cards[0].Count != 2 || cards[1].Count != 2 {
		t.Errorf("the cards are %+v", cards)
	}
	checkCards(t, "the example", []impl.Entry{{Path: "f", Mode: 420}, {Kind: impl.KHard, Path: "h", Link: "f", Mode: 420}}, []impl.Card{
		{Ino: 1, Mode: 33188, Count: 2, Path: "f"},
		{Ino: 1, Mode: 33188, Count: 2, Path: "h"},
	})
}

// Every field of entries of every kind. A hard link has numbers of its own.
func TestCardsOfEveryKind(t *testing.T) {
	list := []impl.Entry{
		{Kind: impl.KDir, Path: "d", Mode: 493, Uid: 1, Gid: 2, Time: 3, User: "ann", Group: "staff"},
		{Kind: impl.KFile, Path: "d/f", Mode: 420, Uid: 4, Gid: 5, Time: 6, User: "ann", Body: "body"},
		{Kind: impl.KSym, Path: "s", Link: "../x", Mode: 511, Uid: 7, Gid: 8, Time: 9, Group: "staff"},
		{Kind: impl.KHard, Path: "h", Link: "d/f", Mode: 384, Uid: 10, Gid: 11, Time: 12, User: "bob"},
		{Kind: impl.KFile, Path: "e", Mode: 0, Uid: 4294967295, Gid: 4294967295, Time: 99999999999},
		{Kind: impl.KFile, Path: "TRAILER!!!", Mode: 4095, Body: "d/f"},
	}
	checkCards(t, "every kind", list, []impl.Card{
		{Ino: 1, Mode: 16384 + 493, Uid: 1, Gid: 2, Count: 2, Time: 3, Path: "d"},
		{Ino: 2, Mode: 32768 + 420, Uid: 4, Gid: 5, Count: 2, Time: 6, Path: "d/f", Data: "body"},
		{Ino: 3, Mode: 40960 + 511, Uid: 7, Gid: 8, Count: 1, Time: 9, Path: "s", Data: "../x"},
		{Ino: 2, Mode: 32768 + 384, Uid: 10, Gid: 11, Count: 2, Time: 12, Path: "h"},
		{Ino: 5, Mode: 32768, Uid: 4294967295, Gid: 4294967295, Count: 1, Time: 99999999999, Path: "e"},
		{Ino: 6, Mode: 32768 + 4095, Count: 1, Path: "TRAILER!!!", Data: "d/f"},
	})
}

// The promise, for lists of every kind of entry.
func TestListComesBackFromItsCards(t *testing.T) {
	lists, withUsers := 0, 0
	kinds := map[int]int{}
	for _, list := range someGnuLists() {
		if !isList(list) {
			t.Fatalf("the list %+v is invalid", list)
		}
		checkCards(t, "a valid list", list, cardsFor(list))
		lists++
		if !impl.SameList(list, withoutUsers(list)) {
			withUsers++
		}
		for _, e := range list {
			kinds[e.Kind]++
		}
	}
	if lists < 900 || withUsers < 50 {
		t.Errorf("only %d lists are valid, %d with a User or Group", lists, withUsers)
	}
	for kind := range 4 {
		if kinds[kind] < 200 {
			t.Errorf("there are only %d entries of the kind %d", kinds[kind], kind)
		}
	}
}

func TestCardsOfNothing(t *testing.T) {
	for _, list := range [][]impl.Entry{nil, {}} {
		checkCards(t, "the empty list", list, nil)
	}
	for _, cards := range [][]impl.Card{nil, {}} {
		if list, ok := impl.EntriesOf(cards); len(list) != 0 || !ok {
			t.Errorf("EntriesOf of no cards is %+v, %v", list, ok)
		}
	}
}

// checkCounts fails unless the cards of the valid list have these inode numbers and link counts.
func checkCounts(t *testing.T, name string, list []impl.Entry, inos []int, counts []int) {
	t.Helper()
	checkCards(t, name, list, cardsFor(list))
	var gotInos, gotCounts []int
	for _, c := range impl.CardsOf(list) {
		gotInos = append(gotInos, c.Ino)
		gotCounts = append(gotCounts, c.Count)
	}
	if !slices.Equal(gotInos, inos) || !slices.Equal(gotCounts, counts) {
		t.Errorf("%s has the inode numbers %v, want %v, and the link counts %v, want %v", name, gotInos, inos, gotCounts, counts)
	}
}

// The link count of a directory is 2, whatever is in it and beside it.
func TestLinkCountsOfDirectories(t *testing.T) {
	checkCounts(t, "a directory", []impl.Entry{dir("d")}, []int{1}, []int{2})
	checkCounts(t, "two directories", []impl.Entry{dir("d"), dir("e")}, []int{1, 2}, []int{2, 2})
	checkCounts(t, "directories in a directory", []impl.Entry{dir("d"), dir("d/a"), dir("d/b"), dir("d/a/c")}, []int{1, 2, 3, 4}, []int{2, 2, 2, 2})
	checkCounts(t, "a directory behind what is in it", []impl.Entry{file("d/f", ""), dir("d/a"), dir("d")}, []int{1, 2, 3}, []int{1, 2, 2})
	checkCounts(t, "entries in a directory", []impl.Entry{dir("d"), file("d/f", "x"), sym("d/s", "d"), hard("d/h", "d/f"), hard("d/i", "d/f")}, []int{1, 2, 3, 2, 2}, []int{2, 3, 1, 3, 3})
	checkCounts(t, "directories between the links of a file", []impl.Entry{file("f", "x"), dir("d"), hard("h", "f"), dir("e"), hard("i", "f")}, []int{1, 2, 1, 4, 1}, []int{3, 2, 3, 2, 3})
	checkCounts(t, "a symbolic link to a directory", []impl.Entry{sym("s", "d"), dir("d")}, []int{1, 2}, []int{1, 2})
	var many []impl.Entry
	for _, e := range files(30) {
		many = append(many, dir(e.Path))
	}
	for i, c := range impl.CardsOf(many) {
		if c.Count != 2 || c.Ino != i+1 {
			t.Errorf("directory %d of 30 has the inode number %d and the link count %d", i, c.Ino, c.Count)
		}
	}
}

func TestLinkCountsOfFiles(t *testing.T) {
	f, g := file("f", "x"), file("g", "")
	checkCounts(t, "a file", []impl.Entry{f}, []int{1}, []int{1})
	checkCounts(t, "a file with an empty Body", []impl.Entry{g}, []int{1}, []int{1})
	checkCounts(t, "a file with one link", []impl.Entry{f, hard("h", "f")}, []int{1, 1}, []int{2, 2})
	checkCounts(t, "a file with two links", []impl.Entry{f, hard("h", "f"), hard("i", "f")}, []int{1, 1, 1}, []int{3, 3, 3})
	checkCounts(t, "an empty file with two links", []impl.Entry{g, hard("h", "g"), hard("i", "g")}, []int{1, 1, 1}, []int{3, 3, 3})
	checkCounts(t, "two files with links", []impl.Entry{f, g, hard("i", "g"), hard("h", "f"), hard("j", "g")}, []int{1, 2, 2, 1, 2}, []int{2, 3, 3, 2, 3})
	checkCounts(t, "a file with links and one without", []impl.Entry{g, f, hard("h", "f")}, []int{1, 2, 2}, []int{1, 2, 2})
	checkCounts(t, "a link later on", []impl.Entry{dir("d"), f, sym("s", "f"), g, hard("h", "f")}, []int{1, 2, 3, 4, 2}, []int{2, 2, 1, 1, 2})
	checkCounts(t, "a link named like a directory of its file", []impl.Entry{file("a/b", ""), hard("a", "a/b")}, []int{1, 1}, []int{2, 2})
	// A symbolic link does not count, wherever it leads.
	checkCounts(t, "symbolic links", []impl.Entry{f, sym("s", "f"), sym("t", "f"), sym("u", "u")}, []int{1, 2, 3, 4}, []int{1, 1, 1, 1})
	links := []impl.Entry{f}
	for _, e := range files(30)[1:] {
		links = append(links, hard(e.Path, "f"))
	}
	for i, c := range impl.CardsOf(links) {
		if c.Ino != 1 || c.Count != 30 || i == 0 != (c.Data == "x") {
			t.Errorf("link %d of 29 has the card %+v", i, c)
		}
	}
	checkCards(t, "a file with 29 links", links, cardsFor(links))
}

// A valid list has each hard link behind its file: one ahead of it has no cards, and its cards have no list.
func TestCardsOfALinkAheadOfItsFile(t *testing.T) {
	f := file("f", "x")
	for _, list := range [][]impl.Entry{
		{hard("h", "f"), f}, {hard("h", "f"), file("f", "")}, {hard("g", "f"), f, hard("h", "f")}, {file("e", ""), hard("h", "f"), f}, {dir("d"), hard("h", "f"), sym("s", "f"), f},
	} {
		if got := impl.CardsOf(list); len(got) != 0 {
			t.Errorf("CardsOf(%+v) is %+v", list, got)
		}
		checkNoEntries(t, "a hard link ahead of its file", cardsFor(list)...)
		behind := impl.Sorted(list)
		checkCards(t, "a hard link behind its file", behind, cardsFor(behind))
	}
}

func TestCardsOfManyEntries(t *testing.T) {
	for _, length := range []int{29, 30} {
		checkCards(t, "many files", files(length), cardsFor(files(length)))
	}
	for _, length := range []int{31, 32, 60, 500} {
		if got := impl.CardsOf(files(length)); len(got) != 0 {
			t.Errorf("CardsOf of %d entries has %d cards", length, len(got))
		}
		checkNoEntries(t, "too many cards", cardsFor(files(length))...)
	}
	great := greatList()
	checkCards(t, "30 entries of every kind", great, cardsFor(great))
}

func TestCardsOfInvalidLists(t *testing.T) {
	for name, list := range allInvalidLists() {
		if got := impl.CardsOf(list); len(got) != 0 {
			t.Errorf("CardsOf of %s is %+v", name, got)
		}
	}
	// What makes an entry invalid stands in its card too, unless cards do not tell it.
	refused := 0
	for _, e := range slices.DeleteFunc(changedEntries(file("f", "x")), isEntry) {
		if plain := withoutUsers([]impl.Entry{e}); e.Link == "" && !isEntry(plain[0]) {
			checkNoEntries(t, "an invalid entry", cardsFor(plain)...)
			checkNoEntries(t, "an invalid entry behind another", cardsFor(append(files(1), plain[0]))...)
			refused++
		}
	}
	if refused < 40 {
		t.Errorf("only %d cards are invalid", refused)
	}
}

// The limits of an entry, not those of cpio, count for cards.
func TestCardsBeyondOdc(t *testing.T) {
	for _, e := range oneOfEach()[:3] {
		e.Uid, e.Gid, e.Time = 4294967295, 4294967295, 99999999999
		e.Path = deepPath(strings.Repeat("f", 40))
		checkCards(t, "the greatest numbers", []impl.Entry{e}, cardsFor([]impl.Entry{e}))
		for _, change := range []func(c *impl.Card){
			func(c *impl.Card) { c.Uid++ }, func(c *impl.Card) { c.Gid++ }, func(c *impl.Card) { c.Time++ }, func(c *impl.Card) { c.Path += "f" },
			func(c *impl.Card) { c.Uid = -1 }, func(c *impl.Card) { c.Gid = -1 }, func(c *impl.Card) { c.Time = -1 }, func(c *impl.Card) { c.Path = "" },
		} {
			c := cardsFor([]impl.Entry{e})[0]
			change(&c)
			checkNoEntries(t, "a number beyond the limits", c)
		}
	}
}
