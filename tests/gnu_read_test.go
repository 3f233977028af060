package tests

import (
	"strings"
	"testing"

	"loop.example/g00413/impl"
)

// Promise 6, the header: GetLong of what PutLong did not write.

func TestLongHeaderTooShort(t *testing.T) {
	header := longHeadOf(impl.Entry{Path: "a", Uid: 2097152}, "0", 4)
	for length := range 512 {
		checkNoLong(t, "a cut header", header[:length], impl.RdCut)
		// Nothing else counts then.
		checkNoLong(t, "cut bytes", strings.Repeat("\xff", length), impl.RdCut)
	}
}

// One other byte anywhere makes the checksum differ or malformed.
func TestLongHeaderWithAnotherByte(t *testing.T) {
	great := sym(deepPath("s"), strings.Repeat("l", 101))
	great.Uid, great.Time = 4294967295, 99999999999
	for _, e := range []impl.Entry{file("a", ""), great} {
		header := longHeadOf(e, impl.Flag(e.Kind), 0)
		for at := range 512 {
			for c := range 256 {
				if header[at] != byte(c) {
					checkNoLong(t, "a header with another byte", with(header, at, string([]byte{byte(c)})), impl.RdSum)
				}
			}
		}
	}
}

func TestLongHeaderWithMalformedChecksum(t *testing.T) {
	header := longHeadOf(file("a", ""), "0", 4)
	digits := header[148:154]
	sum, _ := impl.GetOct(digits)
	for _, field := range []string{
		"0" + digits + "\x00", "0" + digits + " ", digits + " \x00", digits + "  ", digits + "\x00\x00", digits + "0 ",
		" " + digits[1:] + "\x00 ", "\x00" + digits[1:] + "\x00 ", digits[1:] + "\x00  ",
		"        ", strings.Repeat("\x00", 8), "000000\x00 ", inBinary(sum, 8), "00000x\x00 ", "000009\x00 ",
	} {
		checkNoLong(t, "a header with the checksum field "+field, with(header, 148, field), impl.RdSum)
	}
	checkNoLong(t, "a block of NULs", strings.Repeat("\x00", 512), impl.RdSum)
	checkLong(t, with(header, 148, digits+"\x00 "), file("a", ""), "0", 4)
}

func TestLongHeaderWithMalformedNumbers(t *testing.T) {
	header := longHeadOf(impl.Entry{Path: "a"}, "0", 0)
	for at, width := range numberFields() {
		zeros, nuls := strings.Repeat("0", width), strings.Repeat("\x00", width)
		for _, field := range []string{
			zeros, zeros[1:] + " ", zeros[1:] + "8", zeros[2:] + "8\x00", zeros[2:] + "9\x00", zeros[2:] + "a\x00", zeros[2:] + " \x00", zeros[2:] + "\x00\x00", zeros[2:] + "\x00 ",
			" " + zeros[2:] + "\x00", "-" + zeros[2:] + "\x00", "+" + zeros[2:] + "\x00", "\x00" + zeros[2:] + "\x00", "0x" + zeros[3:] + "\x00", "0_" + zeros[3:] + "\x00",
			strings.Repeat(" ", width), nuls, strings.Repeat("\xff", width), strings.Repeat("\x80", width),
			// Binary, but with another first byte or too great.
			"\x00" + inBinary(1<<40, width)[1:], "\x81" + inBinary(1<<40, width)[1:], "\xff" + inBinary(1<<40, width)[1:], "\xc0" + inBinary(1<<40, width)[1:],
			inBinary(impl.MaxNum+1, width), inBinary(1<<54, width), "\x80" + strings.Repeat("\xff", width-1), "\x80\xff" + nuls[2:], "\x80\x20" + nuls[2:],
		} {
			checkNoLong(t, "a header with the number "+field, rewritten(header, at, field), impl.RdField)
		}
		checkLong(t, rewritten(header, at, zeros[1:]+"\x00"), impl.Entry{Path: "a"}, "0", 0)
	}
	checkNoLong(t, "a Time of more than eight bytes", rewritten(header, 136, "\x80\x00\x00\x01"+strings.Repeat("\x00", 8)), impl.RdField)
}

// A number is accepted in binary only where it has no place in octal.
func TestLongHeaderWithNumbersInBinary(t *testing.T) {
	for _, e := range []impl.Entry{{Path: "a"}, {Path: deepPath("f"), Uid: 4294967295, Gid: 4294967295, Time: 99999999999, User: "ann"}} {
		header := longHeadOf(e, "0", 7)
		for at, set := range map[int]func(e *impl.Entry, n int){
			108: func(e *impl.Entry, n int) { e.Uid = n },
			116: func(e *impl.Entry, n int) { e.Gid = n },
			136: func(e *impl.Entry, n int) { e.Time = n },
		} {
			width, limit := 8, 2097151
			if at == 136 {
				width, limit = 12, 8589934591
			}
			for _, n := range []int{0, 1, 7, 8, 255, 256, 65536, limit - 1, limit} {
				checkNoLong(t, "a header with a small number in binary", rewritten(header, at, inBinary(n, width)), impl.RdField)
			}
			// An entry that is not valid is recovered too.
			for _, n := range []int{limit + 1, limit + 2, limit + 256, 4294967295 * 4, 99999999999, 100000000000, 1 << 40, impl.MaxNum - 1, impl.MaxNum} {
				changed := e
				set(&changed, n)
				checkLong(t, rewritten(header, at, inBinary(n, width)), changed, "0", 7)
			}
		}
		for at, width := range map[int]int{100: 8, 124: 12} {
			for _, n := range []int{0, 1, 7, 420, 3000, 3001, 4095, 4096, 2097151, 2097152, 8589934592, impl.MaxNum} {
				checkNoLong(t, "a header with a Mode or size in binary", rewritten(header, at, inBinary(n, width)), impl.RdField)
			}
		}
	}
}

func TestLongHeaderWithSize(t *testing.T) {
	header := longHeadOf(file("a", ""), "0", 0)
	for field, size := range map[string]int{"00000000000": 0, "00000000001": 1, "00000005670": 3000} {
		checkLong(t, rewritten(header, 124, field), file("a", ""), "0", size)
	}
	for _, field := range []string{"00000005671", "00000010000", "77777777777", "10000000000"} {
		checkNoLong(t, "a header with the size "+field, rewritten(header, 124, field), impl.RdField)
	}
}

// What has the form of the fields is accepted, even if PutLong refuses such an entry.
func TestLongHeaderOfNoEntry(t *testing.T) {
	plain := longHeadOf(file("a", ""), "0", 0)
	is := func(at int, text string, change func(e *impl.Entry)) {
		t.Helper()
		e := file("a", "")
		change(&e)
		if impl.EntryOk(e) {
			t.Errorf("%+v is valid", e)
		}
		checkLong(t, rewritten(plain, at, text), e, "0", 0)
	}
	is(100, "0010000", func(e *impl.Entry) { e.Mode = 4096 })
	is(100, "7777777", func(e *impl.Entry) { e.Mode = 2097151 })
	is(108, inBinary(4294967296, 8), func(e *impl.Entry) { e.Uid = 4294967296 })
	is(136, inBinary(100000000000, 12), func(e *impl.Entry) { e.Time = 100000000000 })
	is(0, "\x00", func(e *impl.Entry) { e.Path = "" })
	is(157, "b", func(e *impl.Entry) { e.Link = "b" })
	for _, path := range []string{"/", "a/", "../a", "a b", "././@LongLink", "\xff", strings.Repeat("x", 61), strings.Repeat("x", 100), strings.Repeat("\n", 99)} {
		is(0, path, func(e *impl.Entry) { e.Path = path })
	}
	for _, user := range []string{"Ann", "a b", strings.Repeat("u", 21), strings.Repeat("u", 31), strings.Repeat("u", 32)} {
		is(265, user, func(e *impl.Entry) { e.User = user })
		is(297, user, func(e *impl.Entry) { e.Group = user })
	}
	// The flag does not count for the header, nor whether there is a Link.
	for _, flag := range []string{"0", "1", "2", "5", "L", "K", "x", "\x00"} {
		checkLong(t, rewritten(plain, 156, flag), file("a", ""), flag, 0)
		for _, link := range []string{"b", "a", "b c", "b/", "/", strings.Repeat("l", 100)} {
			checkLong(t, sealed(with(with(plain, 156, flag), 157, link)), hard("a", link), flag, 0)
		}
	}
}

// What PutLong would not write for the fields that are read.
func TestLongHeaderWithOtherBytes(t *testing.T) {
	plain := longHeadOf(file("a", ""), "0", 0)
	long := longHeadOf(hard(deepPath("f"), deepPath("g")), "1", 0)
	for _, c := range []struct {
		name string
		at   int
		text string
	}{
		{"the magic of ustar", 257, "ustar\x0000"},
		{"another magic", 257, "Ustar"},
		{"no magic", 257, strings.Repeat("\x00", 8)},
		{"three spaces", 257, "ustar   "},
		{"one space", 257, "ustar \x00\x00"},
		{"spaces and a digit", 264, "0"},
		{"bytes behind the User", 296, "u"},
		{"bytes behind the Group", 328, "g"},
		{"a major number", 329, "0000001"},
		{"a malformed major number", 329, strings.Repeat("\x00", 8)},
		{"a minor number", 337, "0000001"},
		{"a malformed minor number", 337, "       \x00"},
		{"a minor number without its end", 344, "0"},
		{"a prefix", 345, "p"},
		{"a longer prefix", 345, pathOf(60, 37)},
		{"a full prefix", 345, strings.Repeat("p", 155)},
		{"a slash as a prefix", 345, "/"},
		{"bytes behind an empty prefix", 400, "p"},
		{"the last byte of the prefix", 499, "p"},
		{"bytes in the rest", 500, "x"},
		{"the last byte", 511, "\x01"},
	} {
		checkNoLong(t, c.name, rewritten(plain, c.at, c.text), impl.RdBad)
		checkNoLong(t, c.name+", with long names", rewritten(long, c.at, c.text), impl.RdBad)
	}
	checkNoLong(t, "bytes behind the name", rewritten(plain, 50, "x"), impl.RdBad)
	checkNoLong(t, "a byte at the end of the name", rewritten(plain, 99, "\x01"), impl.RdBad)
	checkNoLong(t, "a NUL in a long name", rewritten(long, 50, "\x00"), impl.RdBad)
	checkNoLong(t, "bytes behind an empty Link", rewritten(plain, 200, "b"), impl.RdBad)
	checkNoLong(t, "a NUL in a long Link", rewritten(long, 200, "\x00"), impl.RdBad)
	// A path that an ustar header divides stands there with its prefix.
	ustar := headOf(file(widePath("f"), ""), "0", 0)
	checkNoLong(t, "an ustar header with the other magic", rewritten(ustar, 257, "ustar  \x00"), impl.RdBad)
}

// Of several reasons the one stated first decides.
func TestFirstReasonOfALongHeader(t *testing.T) {
	plain := longHeadOf(file("a", ""), "0", 0)
	bad := with(plain, 257, "ustar\x0000")
	for _, field := range []string{"xxxxxxxx", inBinary(2097151, 8)} {
		wrong := with(plain, 108, field)
		both := with(wrong, 257, "ustar\x0000")
		checkNoLong(t, "all reasons, cut", both[:511], impl.RdCut)
		checkNoLong(t, "a wrong number and magic, cut and sealed", sealed(both)[:511], impl.RdCut)
		checkNoLong(t, "all reasons", both, impl.RdSum)
		checkNoLong(t, "a wrong number, unsealed", wrong, impl.RdSum)
		checkNoLong(t, "a wrong number and a wrong magic", sealed(both), impl.RdField)
		checkNoLong(t, "a wrong number", sealed(wrong), impl.RdField)
	}
	checkNoLong(t, "a wrong magic, unsealed", bad, impl.RdSum)
	checkNoLong(t, "a size over MaxBody and a wrong magic", rewritten(bad, 124, "00000005671"), impl.RdField)
	checkNoLong(t, "a wrong magic", sealed(bad), impl.RdBad)
	checkNoLong(t, "a prefix and a number in binary", rewritten(with(plain, 345, "p"), 116, inBinary(0, 8)), impl.RdField)
}

// Whatever is accepted is the header of what is read, whichever byte is another one.
func TestAcceptedLongHeaderIsWritten(t *testing.T) {
	great := sym(deepPath("s"), strings.Repeat("l", 101))
	great.Uid, great.Gid, great.Time = 2097152, 7, 8589934592
	codes := map[int]int{}
	for _, e := range []impl.Entry{file("a/f", ""), great} {
		header := longHeadOf(e, impl.Flag(e.Kind), 5)
		for at := range 512 {
			for c := range 256 {
				s := rewritten(header, at, string([]byte{byte(c)}))
				got, flag, size, code := impl.GetLong(s)
				codes[code]++
				if code == impl.RdOk && s != longHeadOf(got, flag, size) {
					t.Fatalf("a header with %d at %d is accepted as %+v, %q, %d", c, at, got, flag, size)
				}
				if got.Kind == impl.KFile && impl.EntryOk(got) && impl.PutLong(got, flag, size) != s {
					t.Fatalf("PutLong does not write %+v again", got)
				}
			}
		}
	}
	for _, code := range []int{impl.RdOk, impl.RdField, impl.RdBad} {
		if codes[code] < 1000 {
			t.Errorf("the code %d occurs only %d times", code, codes[code])
		}
	}
}
