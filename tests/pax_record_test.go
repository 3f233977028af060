package tests

import (
	"fmt"
	"math"
	"slices"
	"strings"
	"testing"

	"loop.example/g00413/impl"
)

// Promise 5, a record states its own length: RecordOk, PutRecord, GetRecord, PutRecords and GetRecords.

// isRecord says what a valid record is in other words than the program does.
func isRecord(r impl.Record) bool {
	for _, c := range []byte(r.Key) {
		if c <= ' ' || c >= 127 || c == '=' {
			return false
		}
	}
	return r.Key != "" && len(r.Key) < 31 && len(r.Value) < 251 && strings.Count(r.Value, "\n")+strings.Count(r.Value, "\x00") == 0
}

// textOf returns a valid record as it is written, in other words than the program does.
func textOf(r impl.Record) string {
	rest := " " + r.Key + "=" + r.Value + "\n"
	for _, digits := range []int{1, 2, 3} {
		if text := fmt.Sprint(digits+len(rest)) + rest; len(text) == digits+len(rest) {
			return text
		}
	}
	panic("a record that is too long")
}

// someRecords returns records at the limits of both fields and with odd bytes in them.
func someRecords() []impl.Record {
	keys := []string{"", "k", "path", strings.Repeat("k", 29), strings.Repeat("k", 30), strings.Repeat("k", 31), strings.Repeat("k", 300)}
	for _, c := range []string{"\x00", "\n", "\x1f", " ", "!", "<", "=", ">", "~", "\x7f", "\x80", "\xff", "é", "/"} {
		keys = append(keys, c, "a"+c+"b", c+"b", "a"+c)
	}
	values := []string{"", "v", strings.Repeat("v", 249), strings.Repeat("v", 250), strings.Repeat("v", 251), strings.Repeat("v", 1000)}
	for _, c := range []string{"\x00", "\n", "=", " ", "\x01", "\x09", "\x0b", "\r", "\x7f", "\xff", "é", "9 path=a"} {
		values = append(values, c, "a"+c+"b", c+"b", "a"+c, strings.Repeat("v", 250-len(c))+c, strings.Repeat("v", 100)+c)
	}
	var list []impl.Record
	for _, key := range keys {
		for _, value := range values {
			list = append(list, impl.Record{Key: key, Value: value})
		}
	}
	return list
}

func TestRecordOk(t *testing.T) {
	long := strings.Repeat("v", 250)
	cases := []struct {
		key, value string
		want       bool
	}{
		{"k", "", true},
		{"k", "v", true},
		{"", "", false},
		{"", "v", false},
		{strings.Repeat("k", 30), "v", true},
		{strings.Repeat("k", 31), "v", false},
		{" ", "v", false},
		{"!", "v", true},
		{"~", "v", true},
		{"\x7f", "v", false},
		{"=", "v", false},
		{"a=", "v", false},
		{"=a", "v", false},
		{"a=b", "v", false},
		{"a b", "v", false},
		{"a\nb", "v", false},
		{"a\x00b", "v", false},
		{"a\x80", "v", false},
		{"a/b", "v", true},
		{"k", long, true},
		{"k", long + "v", false},
		{"k", "\n", false},
		{"k", long[1:] + "\n", false},
		{"k", "\x00", false},
		{"k", long[1:] + "\x00", false},
		{"k", "=", true},
		{"k", "a=b=", true},
		{"k", " a b ", true},
		{"k", "\xff\x80\r\t\x7f", true},
	}
	for _, c := range cases {
		if got := impl.RecordOk(impl.Record{Key: c.key, Value: c.value}); got != c.want {
			t.Errorf("RecordOk(%q, %q) = %v", c.key, c.value, got)
		}
	}
	// Every byte in a Key and in a Value.
	for c := range 256 {
		text := string([]byte{byte(c)})
		for _, s := range []string{text, "a" + text, text + "a", "aaaaaaaaaaa" + text + "aaaaaaaaaaa"} {
			if got := impl.RecordOk(impl.Record{Key: s}); got != (c >= 33 && c <= 126 && c != 61) {
				t.Errorf("RecordOk with the Key %q is %v", s, got)
			}
			if got := impl.RecordOk(impl.Record{Key: "k", Value: s}); got != (c != 0 && c != 10) {
				t.Errorf("RecordOk with the Value %q is %v", s, got)
			}
		}
	}
	for _, r := range someRecords() {
		if got := impl.RecordOk(r); got != isRecord(r) {
			t.Errorf("RecordOk(%+v) = %v", r, got)
		}
	}
}

func TestPutRecord(t *testing.T) {
	for want, r := range map[string]impl.Record{
		"9 path=a\n":                 {Key: "path", Value: "a"},
		"5 k=\n":                     {Key: "k"},
		"6 k=v\n":                    {Key: "k", Value: "v"},
		"11 path=ab\n":               {Key: "path", Value: "ab"},
		"18 comment=crates\n":        {Key: "comment", Value: "crates"},
		"8 k=a=b\n":                  {Key: "k", Value: "a=b"},
		"7 k==a\n":                   {Key: "k", Value: "=a"},
		"8 k= a \n":                  {Key: "k", Value: " a "},
		"21 mtime=99999999999\n":     {Key: "mtime", Value: "99999999999"},
		"7 k=\xff\x80\n":             {Key: "k", Value: "\xff\x80"},
		"21 linkpath=9 path=a\n":     {Key: "linkpath", Value: "9 path=a"},
		"15 uid=2097152\n":           {Key: "uid", Value: "2097152"},
		"8 !~=33\n":                  {Key: "!~", Value: "33"},
		"15 0=000000000\n":           {Key: "0", Value: "000000000"},
		"13 path=\xc3\xa9\xc3\xa9\n": {Key: "path", Value: "éé"},
		"17 k=\x01\x02\x03\x04\x05\x06\x07\x08\x09\x0b\x0c\n": {Key: "k", Value: "\x01\x02\x03\x04\x05\x06\x07\x08\x09\x0b\x0c"},
	} {
		if got := impl.PutRecord(r); got != want {
			t.Errorf("PutRecord(%+v) = %q, want %q", r, got, want)
		}
	}
	for _, r := range someRecords() {
		want := ""
		if isRecord(r) {
			want = textOf(r)
		}
		if got := impl.PutRecord(r); got != want {
			t.Errorf("PutRecord(%+v) = %q, want %q", r, got, want)
		}
	}
}

// A record states its own length, whatever that is. A length of 10 or 100 bytes would have a digit less if it were one less, so there is none.
func TestRecordStatesItsLength(t *testing.T) {
	seen := map[int]bool{}
	for key := 1; key <= 30; key++ {
		for value := range 251 {
			r := impl.Record{Key: strings.Repeat("k", key), Value: strings.Repeat("v", value)}
			text := impl.PutRecord(r)
			if want := fmt.Sprint(len(text)) + " " + r.Key + "=" + r.Value + "\n"; text != want || text != textOf(r) {
				t.Fatalf("PutRecord(%+v) = %q, want %q", r, text, want)
			}
			seen[len(text)] = true
		}
	}
	for length := range 300 {
		want := length >= 5 && length != 10 && length != 100 && length <= 286
		if seen[length] != want {
			t.Errorf("that a record has %d bytes is %v", length, seen[length])
		}
	}
}

// The lengths at which the digits of the length itself count.
func TestLengthGainsADigit(t *testing.T) {
	for value, want := range map[int]int{0: 8, 1: 9, 2: 11, 3: 12, 89: 98, 90: 99, 91: 101, 92: 102, 250: 260} {
		r := impl.Record{Key: "path", Value: strings.Repeat("v", value)}
		text := impl.PutRecord(r)
		if len(text) != want || !strings.HasPrefix(text, fmt.Sprint(want)+" path=") {
			t.Errorf("a Value of %d bytes gives %d bytes: %q", value, len(text), text)
		}
		checkRecord(t, text, 0, r, want)
		// The next length is never right, not even where it counts its own digits as well: 10 and 100 in place of 9 and 99.
		for _, other := range []int{want - 2, want - 1, want + 1, want + 2, 10, 100} {
			if other != want {
				checkNoRecord(t, "with the length "+fmt.Sprint(other), fmt.Sprint(other)+text[strings.Index(text, " "):], 0)
			}
		}
	}
}

func checkRecord(t *testing.T, s string, i int, want impl.Record, next int) {
	t.Helper()
	if r, got := impl.GetRecord(s, i); r != want || got != next {
		t.Errorf("GetRecord(%q, %d) = %+v, %d; want %+v, %d", s, i, r, got, want, next)
	}
}

func checkNoRecord(t *testing.T, name string, s string, i int) {
	t.Helper()
	if r, next := impl.GetRecord(s, i); r != (impl.Record{}) || next != -1 {
		t.Errorf("GetRecord(%q, %d), %s, is %+v, %d", s, i, name, r, next)
	}
}

func TestRecordComesBack(t *testing.T) {
	for _, r := range someRecords() {
		text := impl.PutRecord(r)
		if text == "" {
			continue
		}
		for _, before := range []string{"", "\n", "x", "9 path=a\n", "1"} {
			for _, behind := range []string{"", "\n", "x", "=", "9 path=a\n", "\x00\xff"} {
				checkRecord(t, before+text+behind, len(before), r, len(before)+len(text))
			}
		}
		for length := range text {
			checkNoRecord(t, "cut", text[:length], 0)
		}
	}
}

func TestGetRecordAtIndex(t *testing.T) {
	s := "9 path=a\n6 k=v\n"
	checkRecord(t, s, 0, impl.Record{Key: "path", Value: "a"}, 9)
	checkRecord(t, s, 9, impl.Record{Key: "k", Value: "v"}, 15)
	for i := -20; i < 40; i++ {
		if i != 0 && i != 9 {
			checkNoRecord(t, "at an index without one", s, i)
		}
		checkNoRecord(t, "in an empty string", "", i)
	}
	for _, i := range []int{math.MinInt, math.MinInt + 1, -1 << 32, 1 << 32, math.MaxInt - 1, math.MaxInt} {
		checkNoRecord(t, "far away", s, i)
		checkNoRecord(t, "far away", "", i)
	}
	// What stands in front of the index does not count, not even a digit.
	checkNoRecord(t, "with a digit too many", "16 k=v\n", 0)
	checkRecord(t, "16 k=v\n", 1, impl.Record{Key: "k", Value: "v"}, 7)
}

func TestGetRecordRefuses(t *testing.T) {
	for name, texts := range map[string][]string{
		"leading zeros":       {"09 path=a\n", "009 path=a\n", "010 path=a\n", "0010 path=a\n", "0011 path=a\n", "06 k=v\n", "07 k=v\n"},
		"too small a length":  {"8 path=a\n", "0 path=a\n", "1 path=a\n", "5 k=v\n", "10 path=ab\n", "9 path=ab\n"},
		"too great a length":  {"10 path=a\n", "11 path=a\n", "99 path=a\n", "7 k=v\n", "12 path=ab\n", "10 path=ax\n", "6 k=\n\n"},
		"an enormous length":  {"99999999999999999999 path=a\n", strings.Repeat("9", 1000) + " path=a\n", "18446744073709551625 path=a\n"},
		"no digits":           {" path=a\n", "path=a\n", "x path=a\n", "- path=a\n", "  path=a\n", "\n", "=\n", " =\n"},
		"other digits":        {"9x path=a\n", "x9 path=a\n", "+9 path=a\n", "-9 path=a\n", " 9 path=a\n", "9. path=a\n", "0x9 path=a\n", "b path=ab\n", "\xd9\xa9 path=a\n"},
		"no newline":          {"9 path=a", "9 path=ab", "9 path=a\r", "9 path=a\x00", "9 path=a "},
		"no equals sign":      {"9 path a\n", "9 patha2\n", "5 kk\n", "4 k\n", "3 \n", "5 k:\n"},
		"no space":            {"9path=a\n", "9path=aa\n", "9\tpath=a\n", "9\x00path=a\n", "9_path=a\n"},
		"two spaces":          {"9  path=a\n", "10  path=a\n", "9  pat=a\n"},
		"no Key":              {"4 =\n", "5 =v\n", "9 =pathv\n"},
		"a Key with a space":  {"7 a b=\n", "8 a b=c\n"},
		"a bad Key":           {"6 \x7f=v\n", "6 \x1f=v\n", "6 \x80=v\n", "6 \x00=v\n"},
		"a long Key":          {"37 " + strings.Repeat("k", 31) + "=v\n", "36 " + strings.Repeat("k", 31) + "=\n"},
		"a Value with NUL":    {"9 path=\x00\n", "10 path=a\x00\n", "11 path=a\x00\n"},
		"a Value and newline": {"9 path=\n\n", "11 path=a\n\n", "12 path=a\nb\n", "9 path=\n", "10 path=a\n\n"},
		"a long Value":        {"258 k=" + strings.Repeat("v", 251) + "\n", "507 k=" + strings.Repeat("v", 500) + "\n"},
	} {
		for _, s := range texts {
			checkNoRecord(t, name, s, 0)
			checkNoRecord(t, name, "6 k=v\n"+s+"6 k=v\n", 6)
		}
	}
	checkRecord(t, "257 k="+strings.Repeat("v", 250)+"\n", 0, impl.Record{Key: "k", Value: strings.Repeat("v", 250)}, 257)
	checkRecord(t, "36 "+strings.Repeat("k", 30)+"=v\n", 0, impl.Record{Key: strings.Repeat("k", 30), Value: "v"}, 36)
}

// What GetRecord accepts is always what PutRecord writes: with one byte changed, put in or taken out.
func TestAcceptedRecordIsWritten(t *testing.T) {
	accepted := 0
	judge := func(s string) {
		t.Helper()
		r, next := impl.GetRecord(s, 0)
		if next == -1 && r == (impl.Record{}) {
			return
		}
		accepted++
		if next < 0 || next > len(s) || s[:next] != impl.PutRecord(r) || next == 0 {
			t.Fatalf("GetRecord(%q) = %+v, %d", s, r, next)
		}
	}
	for _, s := range []string{"9 path=a\n", "11 path=ab\n", "6 k=v\n6 k=w\n", "99 path=" + strings.Repeat("v", 90) + "\n", "101 path=" + strings.Repeat("v", 91) + "\n"} {
		for at := range s {
			judge(s[:at] + s[at+1:])
			for c := range 256 {
				text := string([]byte{byte(c)})
				judge(with(s, at, text))
				judge(s[:at] + text + s[at:])
			}
		}
	}
	if accepted < 1000 {
		t.Errorf("only %d records are accepted", accepted)
	}
}

// numberedRecords returns n records with distinct Values.
func numberedRecords(n int) []impl.Record {
	var list []impl.Record
	for i := range n {
		list = append(list, impl.Record{Key: "key", Value: strings.Repeat("v", i*7) + fmt.Sprint(i)})
	}
	return list
}

// textsOfRecords returns the records as they are written, however many there are.
func textsOfRecords(list []impl.Record) string {
	text := ""
	for _, r := range list {
		text += textOf(r)
	}
	return text
}

func checkRecords(t *testing.T, list []impl.Record) {
	t.Helper()
	s := impl.PutRecords(list)
	if want := textsOfRecords(list); s != want {
		t.Errorf("PutRecords(%+v) = %q, want %q", list, s, want)
	}
	if got, ok := impl.GetRecords(s); !ok || !slices.Equal(got, list) {
		t.Errorf("GetRecords(%q) = %+v, %v", s, got, ok)
	}
}

func checkNoRecords(t *testing.T, name string, s string) {
	t.Helper()
	if got, ok := impl.GetRecords(s); ok || len(got) != 0 {
		t.Errorf("GetRecords(%q), %s, is %+v, %v", s, name, got, ok)
	}
}

func TestRecordsComeBack(t *testing.T) {
	for n := range 21 {
		checkRecords(t, numberedRecords(n))
	}
	checkRecords(t, []impl.Record{})
	var valid []impl.Record
	for _, r := range someRecords() {
		if isRecord(r) {
			valid = append(valid, r)
		}
	}
	for from := range len(valid) - 20 {
		checkRecords(t, valid[from:from+1])
		checkRecords(t, valid[from:from+20])
	}
	// A list may hold a record, or only its Key, several times.
	checkRecords(t, []impl.Record{{Key: "k", Value: "v"}, {Key: "k", Value: "v"}, {Key: "k"}, {Key: "k"}})
}

func TestNumberOfRecords(t *testing.T) {
	for n, want := range map[int]bool{0: true, 1: true, 19: true, 20: true, 21: false, 22: false, 40: false, 1000: false} {
		var list []impl.Record
		for range n {
			list = append(list, impl.Record{Key: "k", Value: "v"})
		}
		s := strings.Repeat("6 k=v\n", n)
		got := impl.PutRecords(list)
		if want && got != s || !want && got != "" {
			t.Errorf("PutRecords of %d records is %q", n, got)
		}
		if want {
			checkRecords(t, list)
		} else {
			checkNoRecords(t, "too many", s)
		}
	}
}

func TestPutRecordsRefuses(t *testing.T) {
	for _, r := range someRecords() {
		if isRecord(r) {
			continue
		}
		for _, list := range [][]impl.Record{{r}, {r, {Key: "k"}}, {{Key: "k"}, r}, {{Key: "k"}, r, {Key: "k"}}, append(numberedRecords(19), r), append([]impl.Record{r}, numberedRecords(20)...)} {
			if got := impl.PutRecords(list); got != "" {
				t.Errorf("PutRecords(%+v) = %q", list, got)
			}
		}
	}
}

func TestGetRecordsRefuses(t *testing.T) {
	for _, s := range []string{
		"7 k=v\n", "6 k=v", "06 k=v\n", "k=v\n", "\n", " ", "\x00", "x", "=", "5 =v\n", "4 k\n", "6k=v\n", "10 path=a\n", "6 k=v\r", "6 k=\x00\n",
		"258 k=" + strings.Repeat("v", 251) + "\n", "37 " + strings.Repeat("k", 31) + "=v\n",
	} {
		checkNoRecords(t, "alone", s)
		checkNoRecords(t, "in front", s+"6 k=v\n")
		checkNoRecords(t, "at the end", "6 k=v\n"+s)
		checkNoRecords(t, "as the twentieth", strings.Repeat("6 k=v\n", 19)+s)
		checkNoRecords(t, "behind twenty", strings.Repeat("6 k=v\n", 20)+s)
	}
	whole := textsOfRecords(numberedRecords(5))
	ends := map[int]int{0: 0}
	for n := range 6 {
		ends[len(textsOfRecords(numberedRecords(n)))] = n
	}
	for length := range len(whole) + 1 {
		n, complete := ends[length]
		if !complete {
			checkNoRecords(t, "cut", whole[:length])
		} else if got, ok := impl.GetRecords(whole[:length]); !ok || !slices.Equal(got, numberedRecords(n)) {
			t.Errorf("GetRecords of %d bytes is %+v, %v", length, got, ok)
		}
	}
}
