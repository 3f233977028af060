package tests

import (
	"fmt"
	"math/rand"
	"slices"
	"strconv"
	"strings"
	"testing"

	"loop.example/g00413/impl"
)

// Promise 10, an archive that GetGnuAr or GetBsdAr accepts is what PutGnuAr or PutBsdAr writes of its list: what they did not write, and the conventions.

// foundMember is a member of an archive.
type foundMember struct {
	name  string
	entry impl.Entry
	data  string
}

// arMembers returns the members from an index on and RdOk, or the code of the first that is malformed or not complete.
func arMembers(s string, at int) (list []foundMember, code int) {
	for at < len(s) {
		name, e, size, code := memberAt(s, at)
		if code != impl.RdOk {
			return list, code
		}
		if len(s) < at+60+size {
			return list, impl.RdCut
		}
		list = append(list, foundMember{name, e, s[at+60 : at+60+size]})
		at += 60 + (size+1)/2*2
	}
	return list, impl.RdOk
}

// judgedAr returns the list and RdOk if the archive of this kind is that of a list that fits.
func judgedAr(k arKind, s string, list []impl.Entry) ([]impl.Entry, int) {
	unfit := func(e impl.Entry) bool { return !fitsAr(e) }
	if len(list) > 30 || slices.ContainsFunc(list, unfit) || !isList(list) || k.archive(list) != s {
		return nil, impl.RdBad
	}
	return list, impl.RdOk
}

// readGnuAr says what GetGnuAr returns in other words than the program does.
func readGnuAr(s string) ([]impl.Entry, int) {
	if !strings.HasPrefix(s, arLine) {
		return nil, impl.RdBad
	}
	at, table := 8, ""
	if len(s) > 9 && s[8:10] == "//" {
		if len(s) < 68 {
			return nil, impl.RdCut
		}
		size := 0
		if !arDecimal.MatchString(s[56:66]) {
			return nil, impl.RdField
		}
		fmt.Sscanf(s[56:66], "%d", &size)
		if len(s) < 68+size {
			return nil, impl.RdCut
		}
		table = s[68 : 68+size]
		at = 68 + (size+1)/2*2
	}
	found, code := arMembers(s, at)
	if code != impl.RdOk {
		return nil, code
	}
	paths, offset := map[string]string{}, 0
	for _, line := range strings.SplitAfter(table, "\n") {
		paths[fmt.Sprintf("/%d", offset)] = strings.TrimSuffix(line, "/\n")
		offset += len(line)
	}
	var list []impl.Entry
	for _, m := range found {
		path, long := paths[m.name]
		if !long {
			path = strings.TrimSuffix(m.name, "/")
		}
		m.entry.Path, m.entry.Body = path, m.data
		list = append(list, m.entry)
	}
	return judgedAr(gnuAr(), s, list)
}

// readBsdAr says what GetBsdAr returns in other words than the program does.
func readBsdAr(s string) ([]impl.Entry, int) {
	if !strings.HasPrefix(s, arLine) {
		return nil, impl.RdBad
	}
	found, code := arMembers(s, 8)
	var list []impl.Entry
	for _, m := range found {
		m.entry.Path, m.entry.Body = m.name, m.data
		if strings.HasPrefix(m.name, "#1/") && m.name != "#1/" {
			digits := m.name[3:]
			length, err := strconv.Atoi(digits)
			if err != nil || fmt.Sprint(length) != digits || length < 0 || length > len(m.data) {
				return nil, impl.RdBad
			}
			m.entry.Path, m.entry.Body = m.data[:length], m.data[length:]
		}
		list = append(list, m.entry)
	}
	if code != impl.RdOk {
		return nil, code
	}
	return judgedAr(bsdAr(), s, list)
}

// judge fails unless the archive is read as it should be, and accepted only if it is written so. It returns the code.
func (k arKind) judge(t *testing.T, s string) int {
	t.Helper()
	want, wantCode := k.read(s)
	got, code := k.get(s)
	if code != wantCode || !impl.SameList(got, want) {
		t.Fatalf("Get%s of %.2000q is %+v, %d; want %+v, %d", k.name, s, got, code, want, wantCode)
	}
	if again, ok := k.put(got); code == impl.RdOk && (!ok || again != s) {
		t.Fatalf("Get%s accepts %.2000q as %+v", k.name, s, got)
	}
	return code
}

// memberWith returns a member with this name and these bytes behind its header.
func memberWith(name string, data string) string {
	return arHead(name, impl.Entry{Mode: 0o644}, len(data)) + lined(data)
}

// named returns a member of this kind for a file with a short name.
func (k arKind) named(name string, body string) string {
	return k.member([]impl.Entry{file(name, body)}, 0)
}

// badMember is a member that ends the reading, and its code.
type badMember struct {
	name string
	text string
	code int
}

// badMembers returns members that end the reading, whatever stands behind them.
func (k arKind) badMembers() []badMember {
	plain := k.named("bad", "12345")
	list := []badMember{
		{"another end", with(plain, arLast, "xx"), impl.RdBad},
		{"half an end", with(plain, arLast+1, "\r"), impl.RdBad},
		{"a name of spaces alone", with(plain, 0, strings.Repeat(" ", 16)), impl.RdBad},
		{"a great Time", with(plain, arTime, "999999999999"), impl.RdBad},
		{"a great Mode", with(plain, arMode, "10000"), impl.RdBad},
		{"a great size", with(plain, arSize, "100001"), impl.RdBad},
		{"the greatest size", with(plain, arSize, "9999999999"), impl.RdBad},
		{"the header of a table", tableOf("a/b/\n"), impl.RdField},
		{"the line of an archive", arLine + plain, impl.RdField},
		{"a byte too many ahead", "x" + plain, impl.RdField},
	}
	for _, f := range arFields() {
		for _, number := range malformedNumbers(f)[:12] {
			list = append(list, badMember{"a malformed " + f.name, with(plain, f.from, number), impl.RdField})
		}
	}
	return list
}

// wrongMembers returns members that are well formed, but that no archive of this kind has.
func (k arKind) wrongMembers() map[string]string {
	plain := k.named("wrong", "12345")
	members := map[string]string{
		"a space within a name":         with(plain, 1, " "),
		"a space ahead of a name":       with(plain, 0, " "),
		"a NUL in a name":               with(plain, 1, "\x00"),
		"another byte behind its data":  plain[:len(plain)-1] + "\x00",
		"a space behind its data":       plain[:len(plain)-1] + " ",
		"too long a Body":               k.named("wrong", strings.Repeat("b", 3001)),
		"a very long Body":              k.named("wrong", strings.Repeat("b", 100000)),
		"a slash alone":                 memberWith("/", "x"),
		"the name of a table":           memberWith("//", "a/b/\n"),
		"a table that is none":          memberWith("//x", "a/b/\n"),
		"a slash within its name":       memberWith("a/b", "x"),
		"slashes within and behind":     memberWith("a/b/", "x"),
		"two slashes behind its name":   memberWith("a//", "x"),
		"the name ..":                   memberWith("..", "x"),
		"the name ../":                  memberWith("../", "x"),
		"an offset without a table":     memberWith("/0", "x"),
		"a great offset":                memberWith("/999999", "x"),
		"a greater offset":              memberWith("/999999999999999", "x"),
		"a negative offset":             memberWith("/-1", "x"),
		"an offset that is none":        memberWith("/x", "x"),
		"an offset with a leading zero": memberWith("/00", "x"),
		"an offset with a space":        memberWith("/ 0", "x"),
	}
	if k.name == "BsdAr" {
		members["no length of its name"] = memberWith("#1/", "x")
		members["a slash behind its name"] = memberWith("wrong/", "x")
	} else {
		members["no slash behind its name"] = memberWith("wrong", "x")
		members["its name in its data"] = memberWith("#1/3", "a/bx")
	}
	return members
}

func TestArFirstLine(t *testing.T) {
	for _, k := range arKinds() {
		for _, list := range [][]impl.Entry{nil, {file("a", "x")}, arList()} {
			s := k.archive(list)
			for length := range 8 {
				k.checkNotRead(t, "half a first line", s[:length], impl.RdBad)
				k.checkNotRead(t, "half a first line and members", s[:length]+s[8:], impl.RdBad)
				for b := range 256 {
					wrong := with(s, length, string([]byte{byte(b)}))
					if wrong == s {
						continue
					}
					k.checkNotRead(t, "another first line", wrong, impl.RdBad)
					if b%50 == 0 {
						// It counts ahead of all else.
						for _, bad := range k.badMembers() {
							k.checkNotRead(t, "another first line and "+bad.name, wrong+bad.text, impl.RdBad)
						}
						k.checkNotRead(t, "another first line, and cut", wrong+"x", impl.RdBad)
						k.checkNotRead(t, "another first line and half a table", wrong[:8]+"//  ", impl.RdBad)
					}
				}
			}
			for _, line := range []string{"!<thin>\n", "!<ARCH>\n", "!<arch>\r\n", "!<arch> \n", "\n!<arch>\n", " !<arch>\n", "<arch>\n", "!<arch>x", ""} {
				k.checkNotRead(t, "another first line", line+s[8:], impl.RdBad)
			}
		}
		k.checkNotRead(t, "an ustar archive", archiveOf(files(2)), impl.RdBad)
		k.checkNotRead(t, "octal headers", odcOf(odcList()), impl.RdBad)
	}
}

// The end of a member may be the end of an archive; every other cut is noticed.
func TestArCutAtEveryLength(t *testing.T) {
	short := []impl.Entry{file("a", "odd"), file("b", "even"), file("c", ""), file("d", "x")}
	long := []impl.Entry{file("a/b", "odd"), file("c", "even"), file("d/ef", ""), file("e", "x")}
	for _, k := range arKinds() {
		for _, list := range [][]impl.Entry{nil, short, long, arList(), long[:1], {file("sixteen_bytes_xx", "x")}} {
			s := k.archive(list)
			starts := k.starts(list)
			newlines := k.newlines(list)
			for length := range len(s) {
				whole := slices.Index(starts, length)
				switch {
				case length < 8:
					k.checkNotRead(t, "half a first line", s[:length], impl.RdBad)
				case length == 8:
					k.checkRead(t, "a first line", s[:length], nil)
				case whole >= 0 && k.start(list[:whole]) == k.start(list):
					k.checkRead(t, "whole members", s[:length], list[:whole])
				case whole >= 0:
					k.checkNotRead(t, "a table of more names", s[:length], impl.RdBad)
				// Such a newline is neither a part of the table nor of a Body.
				case slices.Contains(newlines, length):
					k.checkNotRead(t, "an archive without a newline", s[:length], impl.RdBad)
				default:
					k.checkNotRead(t, "the first "+impl.DecText(length)+" bytes", s[:length], impl.RdCut)
				}
				k.judge(t, s[:length])
			}
			k.checkWritten(t, "the whole archive", list)
		}
	}
}

// What stands behind the last member is another one.
func TestArGoesOn(t *testing.T) {
	for _, k := range arKinds() {
		for _, list := range [][]impl.Entry{nil, {file("a", "x")}, {file("a", "xy")}, arList()} {
			s := k.archive(list)
			for length := 1; length < 60; length++ {
				for _, fill := range []string{"x", "\n", "\x00", " ", "0", "/x"} {
					k.checkNotRead(t, "an archive that goes on", s+strings.Repeat(fill, length)[:length], impl.RdCut)
				}
			}
			for _, behind := range []string{strings.Repeat("x", 60), strings.Repeat("\n", 60), strings.Repeat(" ", 60), strings.Repeat("\x00", 512), strings.Repeat("0", 60), s + strings.Repeat("\n", 60), "\n" + k.named("b", "x")} {
				k.checkNotRead(t, "an archive that goes on", s+behind, impl.RdField)
			}
			k.checkRead(t, "one more member", s+k.named("new", "body"), append(slices.Clone(list), file("new", "body")))
			if len(list) > 0 {
				k.checkNotRead(t, "a member twice", s+k.member(list, 0), impl.RdBad)
				k.checkNotRead(t, "an archive twice", s+s, impl.RdField)
				k.checkNotRead(t, "the members twice", s+s[k.starts(list)[0]:], impl.RdBad)
			}
		}
	}
}

// Each code of a member ends the reading, wherever the member is and whatever is wrong with the names of the ones ahead of it.
func TestBadMemberInAr(t *testing.T) {
	for _, k := range arKinds() {
		list := arList()
		s := k.archive(list)
		wrong := k.named("wrong", "x") + with(k.named("wrong", "x"), 1, " ") + memberWith("/7", "x")
		for _, start := range k.starts(list) {
			for _, bad := range k.badMembers() {
				k.checkNotRead(t, bad.name, s[:start]+bad.text+s[start:], bad.code)
				k.checkNotRead(t, bad.name+", without an end", s[:start]+bad.text[:60], bad.code)
				k.checkNotRead(t, bad.name+", behind wrong names", s[:start]+wrong+bad.text+s[start:], bad.code)
				k.checkNotRead(t, bad.name+", ahead of half a member", s[:start]+bad.text+"x", bad.code)
				k.checkNotRead(t, bad.name+", ahead of another", s[:start]+bad.text+with(k.named("b", ""), arUid, "x"), bad.code)
				k.checkNotRead(t, bad.name+", cut", s[:start]+bad.text[:59], impl.RdCut)
			}
			plain := k.named("new", "12345")
			for _, missing := range []int{2, 3, 5, 6} {
				k.checkNotRead(t, "a Body that is not complete", s[:start]+plain[:len(plain)-missing], impl.RdCut)
				k.checkNotRead(t, "one behind wrong names", s[:start]+wrong+plain[:len(plain)-missing], impl.RdCut)
			}
			rest := len(s) - start
			for _, more := range []int{1, 2, 100, 50000} {
				k.checkNotRead(t, "a size that is too great", s[:start]+arHead(plain[:5], impl.Entry{}, rest+more)+s[start:], impl.RdCut)
			}
			k.checkNotRead(t, "the greatest size", s[:start]+arHead(plain[:5], impl.Entry{}, 100000)+s[start:], impl.RdCut)
			k.checkNotRead(t, "half a header", s[:start]+plain[:30], impl.RdCut)
			k.checkNotRead(t, "half a header behind wrong names", s[:start]+wrong+plain[:30], impl.RdCut)
		}
	}
}

// Members that are well formed, but that are not written so, count after all else.
func TestWrongMemberInAr(t *testing.T) {
	for _, k := range arKinds() {
		list := arList()
		s := k.archive(list)
		for what, wrong := range k.wrongMembers() {
			for _, start := range k.starts(list) {
				all := s[:start] + wrong + s[start:]
				k.checkNotRead(t, what, all, impl.RdBad)
				k.checkNotRead(t, what+", at the end", s[:start]+wrong, impl.RdBad)
				k.checkNotRead(t, what+", and half a member", all+"x", impl.RdCut)
				k.checkNotRead(t, what+", and half a Body", all+k.named("z", "123")[:61], impl.RdCut)
				k.checkNotRead(t, what+", and a malformed number", all+with(k.named("z", "123"), arGid, "x"), impl.RdField)
				k.checkNotRead(t, what+", and another end", all+with(k.named("z", "123"), arLast, "x"), impl.RdBad)
				k.judge(t, all)
			}
			k.judge(t, arLine+wrong)
			if code := k.judge(t, arLine+k.named("a", "x")+wrong); code != impl.RdBad {
				t.Errorf("Get%s of an archive with %s has the code %d", k.name, what, code)
			}
		}
		k.checkWritten(t, "the list", list)
	}
}

// The byte behind data of odd length is a newline.
func TestByteBehindData(t *testing.T) {
	for _, k := range arKinds() {
		for _, list := range [][]impl.Entry{{file("a", "odd")}, {file("a", ""), file("b", "odd"), file("c", "odd")}, {file("a/b", "odd"), file("d/ef", "odd"), file("#", "oo")}} {
			s := k.archive(list)
			newlines := k.newlines(list)
			if len(newlines) == 0 {
				t.Errorf("%+v has no data of odd length", list)
			}
			for _, at := range newlines {
				for b := range 256 {
					wrong := with(s, at, string([]byte{byte(b)}))
					if b == '\n' {
						k.checkRead(t, "a newline", wrong, list)
						continue
					}
					k.checkNotRead(t, "another byte", wrong, impl.RdBad)
					// It counts after what is wrong with the members behind it.
					k.checkNotRead(t, "another byte and half a member", wrong+"x", impl.RdCut)
					k.checkNotRead(t, "another byte and a malformed number", wrong+with(k.named("z", ""), arTime, "x"), impl.RdField)
				}
				missing, twice := impl.RdField, impl.RdField
				if at == len(s)-1 {
					missing, twice = impl.RdBad, impl.RdCut
				}
				k.checkNotRead(t, "no byte", s[:at]+s[at+1:], missing)
				k.checkNotRead(t, "no byte and no more members", s[:at], impl.RdBad)
				k.checkNotRead(t, "two newlines", s[:at]+"\n"+s[at:], twice)
			}
		}
		// There is none behind data of even length.
		even := k.archive([]impl.Entry{file("a", "even")})
		k.checkNotRead(t, "a newline too many", even+"\n", impl.RdCut)
		k.checkNotRead(t, "a newline too many and a member", even+"\n"+k.named("b", ""), impl.RdField)
	}
}

// The size of a table is the first number that is read.
func TestTableWithMalformedSize(t *testing.T) {
	k := gnuAr()
	sizeField := arFields()[4]
	for _, list := range [][]impl.Entry{{file("a/b", "x")}, arList()} {
		s := k.archive(list)
		for _, number := range malformedNumbers(sizeField) {
			wrong := with(s, 8+arSize, number)
			k.checkNotRead(t, "a malformed size of the table", wrong, impl.RdField)
			k.checkNotRead(t, "one without a table", wrong[:68], impl.RdField)
			k.checkNotRead(t, "one ahead of half a member", wrong+"x", impl.RdField)
			k.checkNotRead(t, "one ahead of a member with another end", with(wrong, k.starts(list)[0]+arLast, "x"), impl.RdField)
			k.checkNotRead(t, "one in a header with another end", with(wrong, 8+arLast, "xx"), impl.RdField)
			k.checkNotRead(t, "one in a header with other bytes", with(wrong, 10, "xx"), impl.RdField)
			k.checkNotRead(t, "one in a header that is cut", wrong[:67], impl.RdCut)
		}
		for length := 9; length < 68; length++ {
			k.checkNotRead(t, "half a header of a table", s[:length], impl.RdCut)
		}
		size := len(namesOf(list))
		for length := 68; length < 68+size; length++ {
			k.checkNotRead(t, "half a table", s[:length], impl.RdCut)
			k.checkNotRead(t, "half a table in a header with another end", with(s, 8+arLast, "x")[:length], impl.RdCut)
		}
		rest := len(s) - 68
		for _, n := range []int{rest + 1, rest + 2, 100000, 100001, 999999, 1000000, 9999999999} {
			k.checkNotRead(t, "a table that is not complete", with(s, 8+arSize, sizeField.text(n)), impl.RdCut)
		}
		for n := range rest {
			if n != size {
				k.judge(t, with(s, 8+arSize, sizeField.text(n)))
			}
		}
		// A table of all that follows.
		k.checkNotRead(t, "nothing but a table", with(s, 8+arSize, sizeField.text(rest)), impl.RdBad)
	}
}

// checkWrongTable fails unless an archive with this beginning is refused, and that counts after all that is wrong with members.
func checkWrongTable(t *testing.T, what string, s string) {
	t.Helper()
	k := gnuAr()
	k.checkNotRead(t, what, s, impl.RdBad)
	k.checkNotRead(t, what+", and half a member", s+"x", impl.RdCut)
	k.checkNotRead(t, what+", and half a Body", s+k.named("z", "123")[:62], impl.RdCut)
	k.checkNotRead(t, what+", and a malformed number", s+with(k.named("z", "123"), arMode, "9"), impl.RdField)
	k.checkNotRead(t, what+", and one more member", s+k.named("z", "123"), impl.RdBad)
	k.judge(t, s)
}

// Apart from the size, what is wrong with the header of a table counts after all else.
func TestTableWithAnotherHeader(t *testing.T) {
	k := gnuAr()
	s := k.archive([]impl.Entry{file("a/b", "x"), file("c", "yz")})
	for at := 10; at < 68; at++ {
		if at >= 8+arSize && at < 8+arLast {
			continue
		}
		for _, b := range []string{"0", "/", "\x00", "\n", "x", "\xff", " ", "\x60"} {
			if wrong := with(s, at, b); wrong != s {
				checkWrongTable(t, "a table with another header", wrong)
			}
		}
	}
	numbers := arHead("//", impl.Entry{}, 5)
	checkWrongTable(t, "a table with all numbers", with(s, 8, numbers))
	checkWrongTable(t, "a table with a Time", with(s, 8+arTime, "0"))
	checkWrongTable(t, "a table with another name", with(s, 8, "//x"))
	checkWrongTable(t, "a table with another end", with(s, 8+arLast, "  "))
	// With one slash less it is a member like any other.
	k.checkNotRead(t, "a table with one slash", with(s, 8, "/ "), impl.RdField)
	k.checkNotRead(t, "a table behind a space", with(s, 8, " //"), impl.RdField)
	// Only the first member may be one.
	table := tableOf("a/b/\n")
	k.checkNotRead(t, "two tables", arLine+table+s[8:], impl.RdField)
	k.checkNotRead(t, "a table behind a member", arLine+k.named("c", "yz")+table+memberWith("/0", "x"), impl.RdField)
	k.checkNotRead(t, "a table at the end", arLine+memberWith("/0", "x")+table, impl.RdField)
	k.checkNotRead(t, "a table behind a newline", arLine+"\n"+s[8:], impl.RdField)
}

// wrongTables returns tables for a member of the Path a/b at the offset 0 that are not the table of its list.
func wrongTables() []string {
	return []string{
		"", "a/b", "a/b/", "a/b\n", "a/b/\r\n", "a/b//\n", "a/b/\n\n", "a/b/\nc/\n", "a/b/\nx/y/\n", "a/b/\na/b/\n", "c/\na/b/\n", "\na/b/\n", "a/b/\x00", "a/b\x00", "a/b/\n\x00", "a/b/ \n",
		"/a/b/\n", "./a/b/\n", "a b/\n", "/\n", "//\n", "\n", "/", "a/\n", "fifteen_bytes_x/\n", "a/../b/\n", "a/b/\nc", "A/b", longPath(201) + "/\n", longPath(202) + "/\n", longPath(199), longPath(200), longPath(200) + "/", longPath(5000) + "/\n",
	}
}

func TestWrongTables(t *testing.T) {
	k := gnuAr()
	member := memberWith("/0", "hi")
	for _, table := range wrongTables() {
		checkWrongTable(t, "a wrong table", arLine+tableOf(table)+member)
		checkWrongTable(t, "a wrong table ahead of a short name", arLine+tableOf(table)+memberWith("a/", "hi"))
		checkWrongTable(t, "a wrong table and a name that is in none", arLine+tableOf(table)+memberWith("a/b/", "hi"))
		checkWrongTable(t, "a wrong table without a member", arLine+tableOf(table))
	}
	checkWrongTable(t, "a table that is not needed", arLine+tableOf("a/b/\n")+memberWith("c/", "x"))
	checkWrongTable(t, "a table that is empty and not needed", arLine+tableOf("")+memberWith("c/", "x"))
	checkWrongTable(t, "a table of a short name", arLine+tableOf("c/\n")+memberWith("/0", "x"))
	checkWrongTable(t, "a table and nothing else", arLine+tableOf("a/b/\n"))
	k.checkRead(t, "the right table", arLine+tableOf("a/b/\n")+member, []impl.Entry{file("a/b", "hi")})
	for _, path := range []string{longPath(199), longPath(200), "sixteen_bytes_xx"} {
		k.checkRead(t, "the right table", arLine+tableOf(path+"/\n")+member, []impl.Entry{file(path, "hi")})
	}
	// The names stand there in the order of the members, and each once.
	one, two := "a/b/\n", "c/d/e/\n"
	k.checkRead(t, "two names", arLine+tableOf(one+two)+memberWith("/0", "x")+memberWith("/5", "y"), []impl.Entry{file("a/b", "x"), file("c/d/e", "y")})
	checkWrongTable(t, "two names in another order", arLine+tableOf(one+two)+memberWith("/5", "x")+memberWith("/0", "y"))
	checkWrongTable(t, "one name for two members", arLine+tableOf(one+two)+memberWith("/0", "x")+memberWith("/0", "y"))
	checkWrongTable(t, "one name for two members", arLine+tableOf(one)+memberWith("/0", "x")+memberWith("/0", "y"))
	checkWrongTable(t, "a name twice", arLine+tableOf(one+one)+memberWith("/0", "x")+memberWith("/5", "y"))
	checkWrongTable(t, "a name that no member has", arLine+tableOf(one+two)+memberWith("/0", "x"))
}

// The name of a member leads to the start of a name in the table, and is written without leading zeros.
func TestWrongOffsets(t *testing.T) {
	const table = "dir/b/\nx/dir/b/\nlast/one/\n"
	start := arLine + tableOf(table)
	right := []string{"/0", "/7", "/16"}
	list := []impl.Entry{file("dir/b", "1"), file("x/dir/b", "22"), file("last/one", "")}
	archive := func(names []string) string {
		s := start
		for i, name := range names {
			s += memberWith(name, list[i].Body)
		}
		return s
	}
	gnuAr().checkRead(t, "the right offsets", archive(right), list)
	names := []string{"/", "//", "/00", "/07", "/016", "/ 7", "/7/", "/7x", "/x", "/-0", "/+7", "/-7", "/7.", "/0x7", "/7 7", "7", "7/", "0", "/a/", "dir/b/", "x/dir/b/", "last/one/", "x/dir/b", "#1/7", "a", "/999999", "/1000000", "/1000007", "/18446744073709", "/999999999999999"}
	for offset := range len(table) + 5 {
		names = append(names, "/"+impl.DecText(offset))
	}
	for at := range right {
		for _, name := range names {
			if name != right[at] {
				wrong := slices.Clone(right)
				wrong[at] = name
				checkWrongTable(t, "a wrong offset", archive(wrong))
			}
		}
	}
}

// A name in the header that does not end with its only slash.
func TestWrongGnuNames(t *testing.T) {
	k := gnuAr()
	for _, name := range []string{"a", "a.o", "sixteen_bytes_xx", "fifteen_bytes_x", "a b/", "a /", " a/", "a//", "/a/", "./", "../", "a/b/", "a/./", "#1/5", "\x00/", "a\x00/", "a\n/", "\xff/", "\n"} {
		checkWrongTable(t, "a wrong name", arLine+memberWith(name, "body!"))
		checkWrongTable(t, "a wrong name behind a right one", arLine+k.named("a", "x")+memberWith(name, "body!"))
	}
	for _, name := range []string{"#1/", "#/", "fifteen_bytes_x/", "0/", "!<arch>/"} {
		k.checkRead(t, "a right name", arLine+memberWith(name, "body!"), []impl.Entry{file(strings.TrimSuffix(name, "/"), "body!")})
	}
}

// Where the name should stand in front of the Body, but the header does not tell how long it is, nothing further is read.
func TestWrongLengthsOfNames(t *testing.T) {
	k := bsdAr()
	data := "dir/b ody"
	malformed := with(k.named("z", "123"), arMode, "9")
	for _, c := range []struct {
		digits string
		atOnce bool
	}{
		{"", false}, {"0", false}, {"1", false}, {"4", false}, {"6", false}, {"9", false},
		{"10", true}, {"11", true}, {"99", true}, {"999999", true}, {"1000000", true}, {"1000005", true}, {"999999999999", true}, {"9999999999999", true},
		{"x", true}, {"5x", true}, {"x5", true}, {"05", true}, {"00", true}, {"005", true}, {"-1", true}, {"-5", true}, {"+5", true}, {"-0", true}, {" 5", true}, {"5 5", true}, {"5/", true}, {"/5", true}, {"#1/5", true},
		{"5.0", true}, {"0x5", true}, {"5\x00", true}, {"\x005", true}, {"\n", true}, {"5\n", true}, {"\xb5", true}, {"５", true},
	} {
		name := "#1/" + c.digits
		for _, ahead := range []string{arLine, arLine + k.named("a", "odd"), k.archive(arList())} {
			s := ahead + memberWith(name, data)
			later := map[string]int{"x": impl.RdCut, k.named("z", "123")[:62]: impl.RdCut, malformed: impl.RdField, k.named("z", "123"): impl.RdBad, "": impl.RdBad, with(malformed, arMode, "10000"): impl.RdBad}
			for behind, code := range later {
				if c.atOnce {
					code = impl.RdBad
				}
				k.checkNotRead(t, "the name "+name, s+behind, code)
				k.judge(t, s+behind)
			}
			// What is wrong with the member itself and those ahead of it counts first.
			k.checkNotRead(t, "half a header of the name "+name, s[:len(ahead)+59], impl.RdCut)
			for length := 60; length < 69; length++ {
				k.checkNotRead(t, "half the data of the name "+name, s[:len(ahead)+length], impl.RdCut)
			}
			k.checkNotRead(t, "the data of the name "+name+" without its newline", s[:len(ahead)+69], impl.RdBad)
			k.checkNotRead(t, "a malformed number with the name "+name, with(s, len(ahead)+arUid, "x"), impl.RdField)
			k.checkNotRead(t, "another end with the name "+name, with(s, len(ahead)+arLast, "x"), impl.RdBad)
			k.checkNotRead(t, "the name "+name+" behind a malformed number", ahead+malformed+s[len(ahead):], impl.RdField)
		}
		// Without data only the length 0 is one.
		without := impl.RdBad
		if c.digits == "" || c.digits == "0" {
			without = impl.RdField
		}
		k.checkNotRead(t, "the name "+name+" without data", arLine+memberWith(name, "")+malformed, without)
	}
	k.checkRead(t, "the right length", arLine+memberWith("#1/5", data), []impl.Entry{file("dir/b", " ody")})
	k.checkRead(t, "the right length of the whole data", arLine+memberWith("#1/9", "dir/b/ody"), []impl.Entry{file("dir/b/ody", "")})
}

// Names that stand where they should not, or that are none.
func TestWrongBsdNames(t *testing.T) {
	k := bsdAr()
	check := func(name string, data string) {
		t.Helper()
		for _, ahead := range []string{arLine, arLine + k.named("x", "odd")} {
			s := ahead + memberWith(name, data)
			k.checkNotRead(t, "a wrong name", s, impl.RdBad)
			k.checkNotRead(t, "a wrong name and half a member", s+"x", impl.RdCut)
			k.checkNotRead(t, "a wrong name and a malformed number", s+with(k.named("z", "123"), arSize, "x"), impl.RdField)
			k.judge(t, s)
		}
	}
	for _, name := range []string{"a/", "a.o/", "a/b", "/0", "/", "#", "#1", "#a", "##", "#2/5", "#1/", "a b", " a", ".", "..", "\x00", "a\x00", "a\n", "\n", "\xff", "é", "#sixteen_bytes_x", "fifteen_bytes_x/"} {
		check(name, "body!")
	}
	// In front of the Body stands no short name, and no other one than a path.
	for _, path := range []string{"a", "a.o", "fifteen_bytes_x", "sixteen_bytes_xx", "a/", "/a", "a//b", "a/./b", "../a", "a b", "a/b ", "dir/\x00", "dir/b\x00", longPath(201), "dir/b\n", strings.Repeat("n", 61)} {
		check("#1/"+impl.DecText(len(path)), path+"Body")
		check("#1/"+impl.DecText(len(path)), path)
	}
	check("#1/0", "Body")
	check("#1/0", "")
	for _, path := range []string{"a/b", "#", "#1", "#1/5", "seventeen_bytes_x", longPath(200), "#sixteen_bytes_x"} {
		k.checkRead(t, "a right name", arLine+memberWith("#1/"+impl.DecText(len(path)), path+"Body"), []impl.Entry{file(path, "Body")})
	}
	for _, path := range []string{"a", "a#", "sixteen_bytes_xx", "0", "!<arch>", "-"} {
		k.checkRead(t, "a right name", arLine+memberWith(path, "Body"), []impl.Entry{file(path, "Body")})
	}
	// A Body may be as long as for any other name.
	k.checkRead(t, "the longest data", arLine+memberWith("#1/200", longPath(200)+strings.Repeat("b", 3000)), []impl.Entry{file(longPath(200), strings.Repeat("b", 3000))})
	check("#1/200", longPath(200)+strings.Repeat("b", 3001))
}

// One kind is not the other, where they write different archives.
func TestArOfTheOtherKind(t *testing.T) {
	for _, list := range [][]impl.Entry{{file("a", "x")}, {file("a/b", "x")}, {file("#1", "x")}, arList()} {
		gnuAr().checkNotRead(t, "an archive of the other kind", bsdAr().archive(list), impl.RdBad)
	}
	bsdAr().checkNotRead(t, "an archive of the other kind", gnuAr().archive([]impl.Entry{file("a", "x")}), impl.RdBad)
	bsdAr().checkNotRead(t, "an archive of the other kind", gnuAr().archive([]impl.Entry{file("#1", "x")}), impl.RdBad)
	// A table has no numbers but its size.
	bsdAr().checkNotRead(t, "an archive with a table", gnuAr().archive(arList()), impl.RdField)
}

// Whichever byte is another one: what is accepted is the archive of its list.
func TestAcceptedArIsWritten(t *testing.T) {
	for _, k := range arKinds() {
		codes := map[int]int{}
		for _, list := range [][]impl.Entry{nil, arList(), {file("a", "odd"), file("b", "ev")}, {file("x/dir/b", "o"), file("dir/b", ""), file("sixteen_bytes_xx", "x")}} {
			s := k.archive(list)
			for at := range s {
				for _, c := range []byte("\x00\n 0179/#ab\x60\xff") {
					codes[k.judge(t, with(s, at, string([]byte{c})))]++
				}
				codes[k.judge(t, s[:at]+s[at+1:])]++
				for _, more := range []string{"0", " ", "\n", "/"} {
					codes[k.judge(t, s[:at]+more+s[at:])]++
				}
			}
		}
		for code, least := range map[int]int{impl.RdOk: 300, impl.RdField: 300, impl.RdBad: 300, impl.RdCut: 50} {
			if codes[code] < least {
				t.Errorf("Get%s returns the code %d only %d times", k.name, code, codes[code])
			}
		}
		if codes[impl.RdSum]+codes[impl.RdEnd] > 0 {
			t.Errorf("Get%s returns a code that none has: %v", k.name, codes)
		}
	}
}

// Archives of members in any order: only those that are written so are accepted.
func TestArOfAnyMembers(t *testing.T) {
	for _, k := range arKinds() {
		parts := []string{
			arLine, k.named("a", "odd"), k.named("b", ""), k.named("a", "odd")[:62], memberWith("a/b/", "x"), memberWith("#1/3", "a/bx"), memberWith("#1/4", "a/b"),
			tableOf("a/b/\n"), tableOf("a/b/\nc/d/\n"), memberWith("/0", "x"), memberWith("/5", ""), "\n", "x",
		}
		accepted := 0
		for s := range mixes(parts, arLine) {
			if k.judge(t, s) == impl.RdOk {
				accepted++
			}
		}
		if accepted < 10 {
			t.Errorf("Get%s accepts only %d archives", k.name, accepted)
		}
	}
}

// The conventions: a result shares no memory with an argument, nor do two parts of it.
func TestArResultsAreNewMemory(t *testing.T) {
	list := []impl.Entry{
		{Path: strings.Clone(longPath(90)), Body: strings.Repeat("b", 1000)},
		{Path: strings.Clone("fifteen_bytes_x"), Body: strings.Repeat("b", 1001)},
		{Path: strings.Clone("#1/" + longPath(190)), Body: strings.Repeat("b", 59)},
		{Path: strings.Clone("sixteen_bytes_xx")},
	}
	for _, k := range arKinds() {
		s, ok := k.put(list)
		if !ok {
			t.Fatalf("Put%s refuses the list", k.name)
		}
		checkApart(t, "Put"+k.name, []string{s}, textsOf(list))
		first, _ := k.get(s)
		second, _ := k.get(s)
		checkApart(t, "Get"+k.name, append(textsOf(first), textsOf(second)...), []string{s})
		first[0] = impl.Entry{Path: "changed"}
		if !impl.SameList(second, list) {
			t.Errorf("Get%s keeps a list", k.name)
		}
		for _, start := range k.starts(list)[:len(list)] {
			name, e, size, code := impl.GetMember(s, start)
			if code != impl.RdOk {
				t.Fatalf("GetMember of %q has the code %d", s[start:], code)
			}
			checkApart(t, "GetMember", append(textsOf([]impl.Entry{e}), name), []string{s})
			e.Path = "x"
			checkApart(t, "PutMember", []string{impl.PutMember(name, e, size)}, []string{name, s})
		}
	}
	full := strings.Clone("sixteen_bytes_xx")
	checkApart(t, "PutMember", []string{impl.PutMember(full, list[0], 0)}, append(textsOf(list), full))
	for _, some := range [][]impl.Entry{list, list[:1], list[3:]} {
		checkApart(t, "Names", []string{impl.Names(some), impl.Names(some)}, textsOf(some))
	}
}

// The conventions: no argument is changed, not even what lies behind the end of a list.
func TestArChangesNothing(t *testing.T) {
	whole := append(reducedToAr(greatList()), append(arList(), files(20)...)...)
	before := slices.Clone(whole)
	for length := range len(whole) + 1 {
		list := whole[:length]
		impl.Names(list)
		for _, k := range arKinds() {
			s, _ := k.put(list)
			got, _ := k.get(s)
			for i := range got {
				got[i] = impl.Entry{Path: "changed"}
			}
			_ = append(got, impl.Entry{Path: "changed"})
		}
		if !impl.SameList(whole, before) {
			t.Fatalf("with %d entries the argument is now %v", length, whole)
		}
	}
}

// The conventions: every function of the chapter answers whatever it is given.
func TestArAnswersAnything(t *testing.T) {
	random := rand.New(rand.NewSource(10))
	for range 3000 {
		text := make([]byte, random.Intn(200))
		random.Read(text)
		s := string(text)
		few := strings.Map(func(r rune) rune { return rune("0/ \n1#\x60a"[r%8]) }, s)
		head := few[:min(len(few), 16)]
		for _, archive := range []string{s, few, arLine + s, arLine + few, arLine + tableOf(few) + few, arLine + tableOf(s) + memberWith("/0", s), arLine + "//" + few} {
			for _, k := range arKinds() {
				k.judge(t, archive)
				k.judge(t, archive+memberWith(head, s))
				k.judge(t, archive+with(arHead(head, arEntry(), 5), random.Intn(60), few[:min(len(few), 1)])[:60])
			}
			judgeMember(t, archive, random.Intn(300)-50)
			judgeMember(t, archive, 0)
		}
		n := func() int { return random.Int() >> random.Intn(64) * (random.Intn(5) - 1) }
		e := impl.Entry{Kind: random.Intn(6) - 1, Path: few, Link: s[:random.Intn(2)*len(s)], Mode: n(), Uid: n(), Gid: n(), Time: n(), Body: s}
		if got, size := impl.PutMember(head, e, n()), 0; got != "" {
			if _, _, size, _ = memberAt(got, 0); !fitsAr(e) || got != arHead(head, e, size) {
				t.Fatalf("%q, %+v is written as %q", head, e, got)
			}
		}
		for _, k := range arKinds() {
			if got, ok := k.put([]impl.Entry{e}); ok != fitsAr(e) || !ok && got != "" {
				t.Fatalf("%+v is written as %q, %v", e, got, ok)
			}
		}
		if got := impl.Names([]impl.Entry{e, e}); got != namesOf([]impl.Entry{e, e}) {
			t.Fatalf("the names are %q", got)
		}
	}
	huge := strings.Repeat("x/", 1<<15)
	for _, e := range []impl.Entry{{}, {Path: huge}, {Path: "a", Link: huge}, {Path: "a", User: huge, Group: huge, Body: huge}, {Kind: -1, Path: "a"}, {Kind: 1 << 40, Path: "a"}} {
		if impl.ArFits(e) || impl.PutMember("n", e, 0) != "" {
			t.Errorf("%.100v fits", e)
		}
		for _, k := range arKinds() {
			k.checkNotWritten(t, "an entry that does not fit", []impl.Entry{e})
		}
	}
	for _, k := range arKinds() {
		for _, s := range []string{huge, arLine + huge, strings.Repeat("\x00", 1<<20), strings.Repeat(arLine, 1<<17), arLine + "//" + huge} {
			k.judge(t, s)
		}
	}
}

// All members are gone through, though there are too many, and many may lead to one place of a great table.
func TestArWithManyMembers(t *testing.T) {
	for _, k := range arKinds() {
		many := arLine + strings.Repeat(k.named("a", "x"), 20000)
		k.checkNotRead(t, "20000 members", many, impl.RdBad)
		k.checkNotRead(t, "20000 members and half a member", many+"x", impl.RdCut)
		k.checkNotRead(t, "20000 members and a malformed number", many+with(k.named("a", "x"), arTime, "x"), impl.RdField)
	}
	for _, table := range []string{strings.Repeat("n", 1<<20), strings.Repeat("n/", 1<<20), strings.Repeat("\n", 1<<20), strings.Repeat("/\n", 1<<20), strings.Repeat("a/b/\n", 1<<18)} {
		s := arLine + tableOf(table) + strings.Repeat(memberWith("/0", ""), 20000)
		gnuAr().checkNotRead(t, "a great table", s, impl.RdBad)
		gnuAr().checkNotRead(t, "a great table and half a member", s+"x", impl.RdCut)
	}
	long := arLine + strings.Repeat(memberWith("#1/100000", strings.Repeat("n", 100000)), 100)
	bsdAr().checkNotRead(t, "long names", long, impl.RdBad)
	bsdAr().checkNotRead(t, "long names and half a member", long+"x", impl.RdCut)
}
