package tests

import (
	"archive/tar"
	"errors"
	"io"
	"strings"
	"testing"

	"loop.example/g00413/impl"
)

// Promise 4, a list that fits is recovered from its archive: PutUstar, GetUstar of what it wrote, and Blocks.

// recordOf returns an entry as it stands in an archive, whatever it is, in other words than the program does.
func recordOf(e impl.Entry) string {
	size := len(e.Body)
	return headOf(e, map[int]string{impl.KFile: "0", impl.KDir: "5", impl.KSym: "2", impl.KHard: "1"}[e.Kind], size) +
		e.Body + strings.Repeat("\x00", (size+511)/512*512-size)
}

// archiveOf returns the records of the entries and the end, whether the list is valid or not.
func archiveOf(list []impl.Entry) string {
	var text strings.Builder
	for _, e := range list {
		text.WriteString(recordOf(e))
	}
	return text.String() + strings.Repeat("\x00", 1024)
}

// bodySizes are the lengths of bodies at and around those of whole blocks.
func bodySizes() []int {
	return []int{0, 1, 2, 510, 511, 512, 513, 1023, 1024, 1025, 2559, 2560, 2561, 2999, 3000}
}

// fullList returns a list with entries of every kind and with all of their fields.
func fullList() []impl.Entry {
	list := []impl.Entry{
		dir("d"), file("d/f", everyByte()), sym("s", "/no/where/../x"), hard("d/h", "d/f"),
		{Kind: impl.KFile, Path: pathOf(60, 37, 56, 44), Mode: 4095, Uid: 2097151, Gid: 2097151, Time: 8589934591, User: "ann", Group: strings.Repeat("g", 20), Body: strings.Repeat("\x00", 600)},
		{Kind: impl.KDir, Path: longPath(100), User: "_"},
		{Kind: impl.KSym, Path: longPath(101), Link: strings.Repeat("l", 100), Group: "0"},
		{Kind: impl.KHard, Path: "h", Link: "d/f", Time: 1},
	}
	for _, size := range bodySizes() {
		list = append(list, file("b"+impl.DecText(size), strings.Repeat("b", size)))
	}
	return list
}

// someFitting returns lists that fit into ustar.
func someFitting() [][]impl.Entry {
	result := [][]impl.Entry{nil, {}, fullList(), files(29), files(30)}
	for _, e := range manyEntries() {
		// A hard link has its file in front.
		list := []impl.Entry{file("a/f", "body"), file("x", "x"), e}
		if e.Path != "a/f" && e.Path != "x" && e.Kind == impl.KHard && impl.PathOk(e.Link) && e.Link != "x" && e.Link != "a/f" {
			list[1].Path = e.Link
		}
		if isList(list) && fitsUstar(list[1]) && fitsUstar(e) {
			result = append(result, list)
		}
	}
	for _, list := range lists(3) {
		if isList(list) {
			result = append(result, list)
		}
	}
	return result
}

func TestPutUstar(t *testing.T) {
	checked := 0
	for _, list := range someFitting() {
		s, ok := impl.PutUstar(list)
		if want := archiveOf(list); s != want || !ok {
			t.Fatalf("PutUstar(%v) has %d bytes, %v; want %d", list, len(s), ok, len(want))
		}
		if got := impl.Blocks(list); got*512 != len(s) {
			t.Errorf("Blocks(%v) = %d, but the archive has %d bytes", list, got, len(s))
		}
		checked++
	}
	if checked < 300 {
		t.Errorf("only %d lists fit", checked)
	}
}

func TestBlocks(t *testing.T) {
	for size, want := range map[int]int{0: 3, 1: 4, 511: 4, 512: 4, 513: 5, 1024: 5, 1025: 6, 3000: 9} {
		if got := impl.Blocks([]impl.Entry{file("a", strings.Repeat("x", size))}); got != want {
			t.Errorf("Blocks of a file of %d bytes is %d, want %d", size, got, want)
		}
	}
	for want, list := range map[int][]impl.Entry{2: nil, 7: oneOfEach(), 32: files(30), 0: files(31)} {
		if got := impl.Blocks(list); got != want {
			t.Errorf("Blocks(%v) = %d, want %d", list, got, want)
		}
	}
}

// A list that fits is recovered from its archive.
func TestListComesBack(t *testing.T) {
	for _, list := range someFitting() {
		s, _ := impl.PutUstar(list)
		if got, code := impl.GetUstar(s); code != impl.RdOk || !impl.SameList(got, list) {
			t.Fatalf("the list %v comes back as %v, %d", list, got, code)
		}
	}
	for _, size := range bodySizes() {
		for _, fill := range []string{"\x00", "x", "\xff"} {
			list := []impl.Entry{file("a", strings.Repeat(fill, size)), hard("h", "a")}
			s, ok := impl.PutUstar(list)
			if got, code := impl.GetUstar(s); !ok || code != impl.RdOk || !impl.SameList(got, list) {
				t.Errorf("a body of %d bytes comes back as %v, %d", size, got, code)
			}
		}
	}
}

// A body may look like a header or like the end of an archive.
func TestArchiveInAnArchive(t *testing.T) {
	inner, _ := impl.PutUstar([]impl.Entry{file("in", "x")})
	list := []impl.Entry{file("a", inner), file("b", inner[:512]), file("c", strings.Repeat("\x00", 1024)), dir("d")}
	s, ok := impl.PutUstar(list)
	if got, code := impl.GetUstar(s); !ok || code != impl.RdOk || !impl.SameList(got, list) {
		t.Errorf("an archive in an archive comes back as %v, %d", got, code)
	}
}

// checkLibrary fails unless the library's own reader finds the entries next, in that format, and nothing behind them.
func checkLibrary(t *testing.T, reader *tar.Reader, list []impl.Entry, format tar.Format) {
	t.Helper()
	types := map[int]byte{impl.KFile: tar.TypeReg, impl.KDir: tar.TypeDir, impl.KSym: tar.TypeSymlink, impl.KHard: tar.TypeLink}
	for _, e := range list {
		h, err := reader.Next()
		if err != nil {
			t.Fatalf("%s: %v", e.Path, err)
		}
		body, err := io.ReadAll(reader)
		if err != nil || string(body) != e.Body || h.Name != e.Path || h.Linkname != e.Link || h.Typeflag != types[e.Kind] || h.Format&format == 0 {
			t.Errorf("the library reads %+v as %+v, %v", e, h, err)
		}
		if int(h.Mode) != e.Mode || h.Uid != e.Uid || h.Gid != e.Gid || int(h.ModTime.Unix()) != e.Time || h.Uname != e.User || h.Gname != e.Group {
			t.Errorf("the library reads %+v as %+v", e, h)
		}
	}
	if _, err := reader.Next(); !errors.Is(err, io.EOF) {
		t.Errorf("behind the last entry the library reads %v", err)
	}
}

func TestLibraryReadsUstar(t *testing.T) {
	s, _ := impl.PutUstar(fullList())
	checkLibrary(t, tar.NewReader(strings.NewReader(s)), fullList(), tar.FormatUSTAR)
}

func checkNoArchive(t *testing.T, name string, list []impl.Entry) {
	t.Helper()
	if s, ok := impl.PutUstar(list); s != "" || ok {
		t.Errorf("PutUstar of %s has %d bytes, %v", name, len(s), ok)
	}
	if got := impl.Blocks(list); got != 0 {
		t.Errorf("Blocks of %s is %d", name, got)
	}
}

func TestPutUstarRefuses(t *testing.T) {
	for name, list := range invalidLists() {
		checkNoArchive(t, name, list)
	}
	refused := 0
	for _, e := range manyEntries() {
		if fitsUstar(e) {
			continue
		}
		refused++
		checkNoArchive(t, "an entry that does not fit", []impl.Entry{e})
		checkNoArchive(t, "a last entry that does not fit", []impl.Entry{file("a/f", ""), dir("z"), e})
		checkNoArchive(t, "a first entry that does not fit", []impl.Entry{e, file("z", "")})
	}
	// Valid in the list, but not for ustar.
	for _, e := range []impl.Entry{{Path: "a", Uid: 2097152}, {Path: "a", Gid: 2097152}, {Path: "a", Time: 8589934592}, dir(pathOf(60, 37, 57, 43)), sym("s", strings.Repeat("l", 101))} {
		if !impl.ListOk([]impl.Entry{e}) {
			t.Errorf("%+v is invalid", e)
		}
		checkNoArchive(t, "a valid entry that does not fit", []impl.Entry{e})
	}
	far := longPath(101)
	checkNoArchive(t, "a hard link to a long path", []impl.Entry{file(far, ""), hard("h", far)})
	if refused < 100 {
		t.Errorf("only %d entries do not fit", refused)
	}
}
