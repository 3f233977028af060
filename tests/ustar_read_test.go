package tests

import (
	"strings"
	"testing"

	"loop.example/g00413/impl"
)

// Promise 4, a header is recovered from its bytes: GetHead.

// asRead returns what GetHead tells of an entry.
func asRead(e impl.Entry) impl.Entry {
	e.Kind, e.Body = impl.KFile, ""
	return e
}

func checkHead(t *testing.T, header string, entry impl.Entry, flag string, size int) {
	t.Helper()
	for _, behind := range []string{"", "\x00", "behind", strings.Repeat("\xff", 600), header} {
		e, f, n, code := impl.GetHead(header + behind)
		if e != asRead(entry) || f != flag || n != size || code != impl.RdOk {
			t.Errorf("GetHead of the header of %+v is %+v, %q, %d, %d", entry, e, f, n, code)
		}
	}
}

// checkNoHead fails unless GetHead refuses s with the code and tells nothing else.
func checkNoHead(t *testing.T, name string, s string, want int) {
	t.Helper()
	if e, flag, size, code := impl.GetHead(s); code != want || e != (impl.Entry{}) || flag != "" || size != 0 {
		t.Errorf("GetHead of %s is %+v, %q, %d, %d; want the code %d", name, e, flag, size, code, want)
	}
}

// with returns s with other bytes from the index on.
func with(s string, at int, text string) string {
	return s[:at] + text + s[at+len(text):]
}

// rewritten returns the first header of s with other bytes from the index on and the checksum right for them.
func rewritten(s string, at int, text string) string {
	return sealed(with(s, at, text))
}

// A header is recovered from its bytes.
func TestHeaderComesBack(t *testing.T) {
	recovered := 0
	for _, e := range manyEntries() {
		for _, size := range []int{0, 1, 511, 3000} {
			header := impl.PutHead(e, impl.Flag(e.Kind), size)
			if header != "" {
				checkHead(t, header, e, impl.Flag(e.Kind), size)
				recovered++
			}
		}
	}
	if recovered < 400 {
		t.Errorf("only %d headers are recovered", recovered)
	}
}

// A header without a Link is recovered with any flag but those of the links, with a Link under the flags whose kind may have it.
func TestHeaderComesBackWithAnyFlag(t *testing.T) {
	for c := range 256 {
		flag := string([]byte{byte(c)})
		for _, e := range []impl.Entry{file("a/f", "body"), dir(longPath(150))} {
			header := impl.PutHead(e, flag, 9)
			if flag == "1" || flag == "2" {
				checkNoHead(t, "a header of a link without a Link", header, impl.RdBad)
			} else {
				checkHead(t, header, e, flag, 9)
			}
		}
		for _, link := range []string{"to", "a/../b", "own"} {
			header := impl.PutHead(sym("own", link), flag, 0)
			if flag == "2" || flag == "1" && link == "to" {
				checkHead(t, header, sym("own", link), flag, 0)
			} else {
				checkNoHead(t, "a header with a Link and the flag "+flag, header, impl.RdBad)
			}
		}
	}
}

func TestHeaderTooShort(t *testing.T) {
	header := impl.PutHead(file("a", "body"), "0", 4)
	for length := range 512 {
		checkNoHead(t, "a cut header", header[:length], impl.RdCut)
		// Nothing else counts then.
		checkNoHead(t, "cut bytes", strings.Repeat("\xff", length), impl.RdCut)
	}
}

// One other byte anywhere makes the checksum differ or malformed.
func TestHeaderWithAnotherByte(t *testing.T) {
	for _, e := range oneOfEach() {
		header := impl.PutHead(e, impl.Flag(e.Kind), 0)
		for at := range 512 {
			for c := range 256 {
				if header[at] != byte(c) {
					checkNoHead(t, "a header with another byte", with(header, at, string([]byte{byte(c)})), impl.RdSum)
				}
			}
		}
	}
}

func TestHeaderWithMalformedChecksum(t *testing.T) {
	header := impl.PutHead(file("a", "body"), "0", 4)
	digits := header[148:154]
	for _, field := range []string{
		"0" + digits + "\x00", "0" + digits + " ", digits + " \x00", digits + "  ", digits + "\x00\x00", digits + "0 ", digits + "00",
		" " + digits[1:] + "\x00 ", "\x00" + digits[1:] + "\x00 ", digits[1:] + "\x00  ", digits[1:] + "\x00\x00 ",
		"        ", strings.Repeat("\x00", 8), "000000\x00 ", "777777\x00 ", "\x80" + strings.Repeat("\x00", 7), "-" + digits[1:] + "\x00 ", "00000x\x00 ", "000009\x00 ",
	} {
		checkNoHead(t, "a header with the checksum field "+field, with(header, 148, field), impl.RdSum)
	}
	checkNoHead(t, "a block of NULs", strings.Repeat("\x00", 512), impl.RdSum)
	checkHead(t, with(header, 148, digits+"\x00 "), file("a", ""), "0", 4)
}

// numberFields tells where the numbers stand and how many bytes they take.
func numberFields() map[int]int {
	return map[int]int{100: 8, 108: 8, 116: 8, 124: 12, 136: 12}
}

func TestHeaderWithMalformedNumbers(t *testing.T) {
	header := impl.PutHead(impl.Entry{Path: "a"}, "0", 0)
	for at, width := range numberFields() {
		zeros := strings.Repeat("0", width)
		for _, field := range []string{
			zeros, zeros[1:] + " ", zeros[1:] + "8", zeros[2:] + "8\x00", zeros[2:] + "9\x00", zeros[2:] + "a\x00", zeros[2:] + " \x00", zeros[2:] + "\x00\x00", zeros[2:] + "\x00 ",
			" " + zeros[2:] + "\x00", "-" + zeros[2:] + "\x00", "+" + zeros[2:] + "\x00", "\x00" + zeros[2:] + "\x00", "0x" + zeros[3:] + "\x00", "0o" + zeros[3:] + "\x00",
			strings.Repeat(" ", width), strings.Repeat("\x00", width), "\x80" + strings.Repeat("\x00", width-1), strings.Repeat("\xff", width), "0\x00" + zeros[2:], "0_" + zeros[3:] + "\x00",
		} {
			checkNoHead(t, "a header with the number "+field, rewritten(header, at, field), impl.RdField)
		}
		checkHead(t, rewritten(header, at, zeros[1:]+"\x00"), impl.Entry{Path: "a"}, "0", 0)
	}
}

func TestHeaderWithSize(t *testing.T) {
	header := impl.PutHead(file("a", ""), "0", 0)
	for field, size := range map[string]int{"00000000000": 0, "00000000001": 1, "00000005670": 3000} {
		checkHead(t, rewritten(header, 124, field), file("a", ""), "0", size)
	}
	for _, field := range []string{"00000005671", "00000010000", "77777777777", "10000000000"} {
		checkNoHead(t, "a header with the size "+field, rewritten(header, 124, field), impl.RdField)
	}
}

// What has the form of the fields but is not what PutHead writes.
func TestHeaderOfNoEntry(t *testing.T) {
	plain := impl.PutHead(file("a", ""), "0", 0)
	link := impl.PutHead(sym("a", "b"), "2", 0)
	tied := impl.PutHead(hard("a", "b"), "1", 0)
	long := impl.PutHead(file(pathOf(10, 50, 50), ""), "0", 0)
	cases := []struct {
		name, header string
		at           int
		text         string
	}{
		{"Mode 4096", plain, 100, "0010000"},
		{"the greatest Mode", plain, 100, "7777777"},
		{"no name", plain, 0, "\x00"},
		{"a name that is no path", plain, 0, "/"},
		{"a name with a slash at its end", plain, 0, "a/"},
		{"a name that leads upwards", plain, 0, "../a"},
		{"a name with a space", plain, 0, "a b"},
		{"a component that is too long", plain, 0, strings.Repeat("x", 61)},
		{"bytes behind the name", plain, 50, "x"},
		{"a byte at the end of the name", plain, 99, "\x01"},
		{"a Link of a file", plain, 157, "b"},
		{"bytes behind an empty Link", plain, 200, "b"},
		{"the flag of a directory and a Link", link, 156, "5"},
		{"the flag of a file and a Link", link, 156, "0"},
		{"no flag of a kind and a Link", link, 156, "x"},
		{"the flag of a symbolic link without a Link", plain, 156, "2"},
		{"the flag of a hard link without a Link", plain, 156, "1"},
		{"a symbolic link with a space", link, 157, "b c"},
		{"a hard link to itself", tied, 157, "a"},
		{"a hard link to what is no path", tied, 157, "b/"},
		{"bytes behind the Link", tied, 200, "b"},
		{"another magic", plain, 257, "Ustar"},
		{"the magic of GNU tar", plain, 257, "ustar  \x00"},
		{"no magic", plain, 257, strings.Repeat("\x00", 8)},
		{"another version", plain, 263, "01"},
		{"no version", plain, 263, "\x00\x00"},
		{"a User in upper case", plain, 265, "Ann"},
		{"a User of 21 bytes", plain, 265, strings.Repeat("u", 21)},
		{"a User of 32 bytes", plain, 265, strings.Repeat("u", 32)},
		{"bytes behind the User", plain, 296, "u"},
		{"a Group with a space", plain, 297, "a b"},
		{"bytes behind the Group", plain, 328, "g"},
		{"a major number", plain, 329, "0000001"},
		{"a malformed major number", plain, 329, strings.Repeat("\x00", 8)},
		{"a minor number", plain, 337, "0000001"},
		{"a malformed minor number", plain, 337, "       \x00"},
		{"a minor number without its end", plain, 344, "0"},
		{"a prefix that is not needed", plain, 345, "p"},
		{"bytes behind an empty prefix", plain, 400, "p"},
		{"a longer prefix", long, 345, pathOf(10, 50) + "/x"},
		{"a prefix that ends with a slash", long, 345, pathOf(10, 50) + "/"},
		{"bytes in the rest", plain, 500, "x"},
		{"the last byte", plain, 511, "\x01"},
	}
	for _, c := range cases {
		checkNoHead(t, c.name, rewritten(c.header, c.at, c.text), impl.RdBad)
	}
	// The right path, divided at a slash that is not the first one to serve.
	path := pathOf(10, 49, 50)
	right := impl.PutHead(file(path, ""), "0", 0)
	late := with(with(right, 0, path[61:]+strings.Repeat("\x00", 50)), 345, path[:60])
	checkHead(t, right, file(path, ""), "0", 0)
	checkNoHead(t, "a path divided too late", sealed(late), impl.RdBad)
}

// Of several reasons the one stated first decides.
func TestFirstReasonOfAHeader(t *testing.T) {
	plain := impl.PutHead(file("a", ""), "0", 0)
	field := with(plain, 100, "xxxxxxxx")
	bad := with(plain, 257, "Ustar")
	both := with(field, 257, "Ustar")
	checkNoHead(t, "all reasons, cut", both[:511], impl.RdCut)
	checkNoHead(t, "all reasons", both, impl.RdSum)
	checkNoHead(t, "a wrong number, unsealed", field, impl.RdSum)
	checkNoHead(t, "a wrong magic, unsealed", bad, impl.RdSum)
	checkNoHead(t, "a wrong number and a wrong magic", sealed(both), impl.RdField)
	checkNoHead(t, "a size over MaxBody and a wrong magic", rewritten(bad, 124, "00000005671"), impl.RdField)
	checkNoHead(t, "a wrong magic", sealed(bad), impl.RdBad)
}

// Whatever is accepted is what PutHead writes, whichever byte is another one.
func TestAcceptedHeaderIsWritten(t *testing.T) {
	accepted, refused := 0, 0
	for _, e := range []impl.Entry{file("a/f", ""), sym(pathOf(10, 49, 50), "../x")} {
		header := impl.PutHead(e, impl.Flag(e.Kind), 5)
		for at := range 512 {
			for c := range 256 {
				s := rewritten(header, at, string([]byte{byte(c)}))
				got, flag, size, code := impl.GetHead(s)
				if code != impl.RdOk {
					refused++
					continue
				}
				accepted++
				if kind := impl.Kind(flag); kind > 0 {
					got.Kind = kind
				}
				if s[:512] != impl.PutHead(got, flag, size) || s != headOf(got, flag, size) {
					t.Fatalf("a header with %d at %d is accepted as %+v, %q, %d", c, at, got, flag, size)
				}
			}
		}
	}
	if accepted < 1000 || refused < 1000 {
		t.Errorf("%d headers are accepted and %d refused", accepted, refused)
	}
}
