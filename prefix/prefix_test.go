package prefix_test

import (
	"bytes"
	"math"
	"strings"
	"testing"

	"aqueduct/api"
	"aqueduct/huff"
	"aqueduct/prefix"
)

func mustPut(t *testing.T, first byte, bits, n int, want string) {
	t.Helper()
	if b, e := prefix.Put(first, bits, n); string(b) != want || e != api.OK {
		t.Errorf("Put(%x, %d, %d) = % x, %d, want % x", first, bits, n, b, e, want)
	}
}

func mustNotPut(t *testing.T, first byte, bits, n int) {
	t.Helper()
	if b, e := prefix.Put(first, bits, n); len(b) != 0 || e != api.ErrArg {
		t.Errorf("Put(%x, %d, %d) = % x, %d, want none, ErrArg", first, bits, n, b, e)
	}
}

func mustGet(t *testing.T, b string, at, bits, n, place int, e api.Errno) {
	t.Helper()
	if gn, gplace, ge := prefix.Get([]byte(b), at, bits); gn != n || gplace != place || ge != e {
		t.Errorf("Get(% x, %d, %d) = %d, %d, %d, want %d, %d, %d", b, at, bits, gn, gplace, ge, n, place, e)
	}
}

func mustPutText(t *testing.T, s string, short bool, want string) {
	t.Helper()
	if b, e := prefix.PutText(s, short); string(b) != want || e != api.OK {
		t.Errorf("PutText(%.40q, %t) = % .40x, %d, want % .40x", s, short, b, e, want)
	}
}

func mustGetText(t *testing.T, b string, at, most int, s string, place int, e api.Errno) {
	t.Helper()
	if gs, gplace, ge := prefix.GetText([]byte(b), at, most); gs != s || gplace != place || ge != e {
		t.Errorf("GetText(% .40x, %d, %d) = %.40q, %d, %d, want %.40q, %d, %d", b, at, most, gs, gplace, ge, s, place, e)
	}
}

// strange are ints that are no place, no count and no number of bits.
func strange() []int {
	return []int{math.MinInt, math.MinInt32, -1 << 32, -8, -1, 1 << 32, 1<<32 + 1, 1 << 62, math.MaxInt - 1, math.MaxInt}
}

func TestExamples(t *testing.T) { // P4.1, P4.2
	mustPut(t, 0, 5, 10, "\x0a")
	mustPut(t, 0, 5, 1337, "\x1f\x9a\x0a")
	mustGet(t, "\x1f\x9a\x0a", 0, 5, 1337, 3, api.OK)
	mustGet(t, "\x1f", 0, 5, 0, 1, api.ErrShort)
	mustPutText(t, "ab", false, "\x02ab")
	mustGetText(t, "\x82", 0, 9, "", 1, api.ErrShort)
}

// edge is an integer, and its bytes, the first one's other bits 0.
type edge struct {
	bits, n int
	b       string
}

func edges() []edge {
	return []edge{
		{1, 0, "\x00"}, {1, 1, "\x01\x00"}, {1, 2, "\x01\x01"}, {1, 128, "\x01\x7f"}, {1, 129, "\x01\x80\x01"},
		{2, 2, "\x02"}, {2, 3, "\x03\x00"}, {3, 6, "\x06"}, {3, 7, "\x07\x00"},
		{4, 14, "\x0e"}, {4, 15, "\x0f\x00"}, {4, 142, "\x0f\x7f"}, {4, 143, "\x0f\x80\x01"},
		{5, 30, "\x1e"}, {5, 31, "\x1f\x00"}, {5, 32, "\x1f\x01"}, {5, 158, "\x1f\x7f"}, {5, 159, "\x1f\x80\x01"},
		{5, 31 + 1<<14 - 1, "\x1f\xff\x7f"}, {5, 31 + 1<<14, "\x1f\x80\x80\x01"},
		{5, 31 + 1<<21 - 1, "\x1f\xff\xff\x7f"}, {5, 31 + 1<<21, "\x1f\x80\x80\x80\x01"},
		{5, 31 + 1<<28 - 1, "\x1f\xff\xff\xff\x7f"}, {5, 31 + 1<<28, "\x1f\x80\x80\x80\x80\x01"},
		{6, 62, "\x3e"}, {6, 63, "\x3f\x00"}, {7, 126, "\x7e"}, {7, 127, "\x7f\x00"}, {7, 254, "\x7f\x7f"},
		{8, 42, "\x2a"}, {8, 254, "\xfe"}, {8, 255, "\xff\x00"}, {8, 382, "\xff\x7f"}, {8, 383, "\xff\x80\x01"},
		{1, api.MaxInt - 1, "\x01\xfd\xff\xff\xff\x07"}, {1, api.MaxInt, "\x01\xfe\xff\xff\xff\x07"},
		{5, api.MaxInt, "\x1f\xe0\xff\xff\xff\x07"}, {7, api.MaxInt, "\x7f\x80\xff\xff\xff\x07"},
		{8, api.MaxInt - 1, "\xff\xff\xfd\xff\xff\x07"}, {8, api.MaxInt, "\xff\x80\xfe\xff\xff\x07"},
	}
}

func TestIntegers(t *testing.T) { // P4.1
	for _, c := range edges() {
		mustPut(t, 0, c.bits, c.n, c.b)
		mustGet(t, c.b, 0, c.bits, c.n, len(c.b), api.OK)
	}
}

func TestOtherBits(t *testing.T) { // P4.1
	for _, c := range edges() {
		for other := 0; other < 256; other += 1 << c.bits {
			b := string([]byte{byte(other) | c.b[0]}) + c.b[1:]
			mustPut(t, byte(other), c.bits, c.n, b)
			mustGet(t, b, 0, c.bits, c.n, len(b), api.OK)
		}
	}
}

func TestPutFirst(t *testing.T) { // P4.1, P2: the low bits of first are refused, each and all of them
	for bits := 1; bits <= 8; bits++ {
		for first := range 256 {
			if first%(1<<bits) == 0 {
				continue
			}
			mustNotPut(t, byte(first), bits, 0)
			mustNotPut(t, byte(first), bits, 300)
		}
	}
}

func TestPutBits(t *testing.T) { // P4.1, P1, P2, P6
	for _, bits := range append(strange(), 0, 9, 16, 63, 64, 256) {
		mustNotPut(t, 0, bits, 0)
		mustNotPut(t, 0x80, bits, 1)
		mustNotPut(t, 1, bits, -1)
	}
}

func TestPutNumber(t *testing.T) { // P4.1, P1, P2, P6
	for bits := 1; bits <= 8; bits++ {
		for _, n := range append(strange(), api.MaxInt+1, api.MaxInt+2) {
			mustNotPut(t, 0, bits, n)
		}
	}
}

func TestGetArguments(t *testing.T) { // P4.1, P1, P2, P6
	for _, b := range []string{"", "\x00", "\x1f\x9a\x0a", "\x1f\xff\xff\xff\xff\xff\xff"} {
		for _, bits := range append(strange(), 0, 9, 16, 63, 64, 256) {
			mustGet(t, b, 0, bits, 0, 0, api.ErrArg)
			mustGet(t, b, len(b), bits, 0, 0, api.ErrArg)
		}
		for bits := 1; bits <= 8; bits++ {
			for _, at := range append(strange(), len(b)+1, len(b)+2) {
				mustGet(t, b, at, bits, 0, 0, api.ErrArg)
			}
		}
	}
}

func TestGetShort(t *testing.T) { // P4.1, P2
	for _, c := range edges() {
		for size := range len(c.b) {
			mustGet(t, c.b[:size], 0, c.bits, 0, size, api.ErrShort)
			mustGet(t, "\xff\xff"+c.b[:size], 2, c.bits, 0, size+2, api.ErrShort)
		}
	}
	mustGet(t, "\x1f\x80\x80\x80\x80\x80", 0, 5, 0, 6, api.ErrShort)
	mustGet(t, "\x1f\xe0\xff\xff\xff\x87", 0, 5, 0, 6, api.ErrShort)
}

func TestGetGreater(t *testing.T) { // P4.1: the fifth byte is the first that can make it too great
	for bits := 1; bits <= 8; bits++ {
		greatest, _ := prefix.Put(0, bits, api.MaxInt)
		for add := 1; add < 1<<20; add = add*2 + 1 {
			b := digits(byte(greatest[0]), api.MaxInt-(1<<bits-1)+add)
			mustGet(t, b, 0, bits, 0, 5, api.ErrLong)
			mustGet(t, b+"\x00", 0, bits, 0, 5, api.ErrLong)
			mustGet(t, "xyz"+b, 3, bits, 0, 8, api.ErrLong)
		}
	}
	mustGet(t, "\x1f\x80\x80\x80\x80\x08", 0, 5, 0, 5, api.ErrLong)
	mustGet(t, "\x1f\x80\x80\x80\x80\x10", 0, 5, 0, 5, api.ErrLong)
	mustGet(t, "\x1f\x80\x80\x80\x80\x7f", 0, 5, 0, 5, api.ErrLong)
	mustGet(t, "\x1f\xff\xff\xff\xff\xff\x00", 0, 5, 0, 5, api.ErrLong)
	mustGet(t, "\x1f\xff\xff\xff\xff\xff", 0, 5, 0, 5, api.ErrLong)
}

// digits are the bytes of an integer, behind its first one those of rest.
func digits(first byte, rest int) string {
	b := []byte{first}
	for ; rest > 127; rest /= 128 {
		b = append(b, byte(rest%128+128))
	}
	return string(append(b, byte(rest)))
}

func TestGetSixth(t *testing.T) { // P4.1: a sixth byte is refused, whatever it is and adds
	for last := range 256 {
		mustGet(t, "\x1f\x80\x80\x80\x80\x80"+string([]byte{byte(last)}), 0, 5, 0, 6, api.ErrLong)
		mustGet(t, "ab\xff\x80\x80\x80\x80\x87"+string([]byte{byte(last)}), 2, 8, 0, 8, api.ErrLong)
	}
	mustGet(t, "\x1f"+strings.Repeat("\x80", 1<<20), 0, 5, 0, 6, api.ErrLong)
}

func TestGetNoughts(t *testing.T) { // P4.1: noughts at the end may stand
	mustGet(t, "\x1f\x80\x00", 0, 5, 31, 3, api.OK)
	mustGet(t, "\x1f\x9a\x8a\x00", 0, 5, 1337, 4, api.OK)
	mustGet(t, "\x1f\x9a\x8a\x80\x80\x00", 0, 5, 1337, 6, api.OK)
	mustGet(t, "\x1f\x80\x80\x80\x80\x00", 0, 5, 31, 6, api.OK)
	mustGet(t, "\x1f\x80\x80\x80\x80\x00\x01", 0, 5, 31, 6, api.OK)
}

func TestGetWithinLength(t *testing.T) { // P4.1, P5: bytes behind the length are none
	whole := []byte("\x1f\x9a\x0a")
	for size := range 3 {
		if n, at, e := prefix.Get(whole[:size], 0, 5); n != 0 || at != size || e != api.ErrShort {
			t.Errorf("Get of %d bytes = %d, %d, %d", size, n, at, e)
		}
	}
}

func TestIntegersReadBack(t *testing.T) { // P4.3
	for bits := 1; bits <= 8; bits++ {
		for power := range 32 {
			for add := -260; add <= 260; add++ {
				n := 1<<power + add
				if n < 0 || n > api.MaxInt {
					continue
				}
				b, e := prefix.Put(0, bits, n)
				if e != api.OK {
					t.Fatalf("Put(0, %d, %d): %d", bits, n, e)
				}
				mustGet(t, string(b), 0, bits, n, len(b), api.OK)
				mustGet(t, "\xff\x00"+string(b)+"\xff", 2, bits, n, len(b)+2, api.OK)
				mustGet(t, "\x80"+string(b)+"\x00\x80", 1, bits, n, len(b)+1, api.OK)
			}
		}
	}
}

func TestNoShorterBytes(t *testing.T) { // P4.3
	for bits := 1; bits <= 8; bits++ {
		for x := range 1 << 16 {
			mustBeShortest(t, []byte{byte(x), byte(x >> 8)}, bits)
			mustBeShortest(t, []byte{255, byte(x), byte(x >> 8)}, bits)
			mustBeShortest(t, []byte{255, 0x80, 0x80 | byte(x), 0x80 | byte(x*7), byte(x >> 8), 7}, bits)
		}
	}
}

// mustBeShortest asks that what is read of b is put in no more bytes than were read.
func mustBeShortest(t *testing.T, b []byte, bits int) {
	t.Helper()
	n, at, e := prefix.Get(b, 0, bits)
	if e != api.OK {
		return
	}
	if again, e := prefix.Put(0, bits, n); e != api.OK || len(again) > at {
		t.Fatalf("Get(% x, 0, %d) = %d, %d, but it is put as % x, %d", b, bits, n, at, again, e)
	}
}

func TestPlainTexts(t *testing.T) { // P4.2
	for _, c := range []struct{ s, head string }{
		{"", "\x00"}, {"a", "\x01"}, {"no-cache", "\x08"}, {"\x00\xff", "\x02"},
		{strings.Repeat("x", 126), "\x7e"}, {strings.Repeat("x", 127), "\x7f\x00"}, {strings.Repeat("x", 254), "\x7f\x7f"},
		{strings.Repeat("x", 255), "\x7f\x80\x01"}, {strings.Repeat("x", api.MaxText), "\x7f\x81\x7f"},
	} {
		mustPutText(t, c.s, false, c.head+c.s)
		mustGetText(t, c.head+c.s, 0, api.MaxText, c.s, len(c.head)+len(c.s), api.OK)
		mustGetText(t, c.head+c.s, 0, len(c.s), c.s, len(c.head)+len(c.s), api.OK)
		mustGetText(t, "\x80"+c.head+c.s+"y", 1, len(c.s), c.s, 1+len(c.head)+len(c.s), api.OK)
	}
}

func TestCodedTexts(t *testing.T) { // P4.2
	mustPutText(t, "no-cache", true, "\x86\xa8\xeb\x10\x64\x9c\xbf")
	mustPutText(t, "www.example.com", true, "\x8c\xf1\xe3\xc2\xe5\xf2\x3a\x6b\xa0\xab\x90\xf4\xff")
	mustGetText(t, "x\x86\xa8\xeb\x10\x64\x9c\xbfy", 1, 8, "no-cache", 8, api.OK)
	mustGetText(t, "\x8c\xf1\xe3\xc2\xe5\xf2\x3a\x6b\xa0\xab\x90\xf4\xff", 0, 15, "www.example.com", 13, api.OK)
	for _, size := range []int{202, 203, 204, 406, 407, 408, api.MaxText} { // around what 126, 127, 254, 255 bytes code
		s := strings.Repeat("a", size)
		code := string(huff.Encode([]byte(s)))
		want := digits(0xff, len(code)-127) + code
		if len(code) < 127 {
			want = string([]byte{byte(0x80 | len(code))}) + code
		}
		mustPutText(t, s, true, want)
		mustGetText(t, want, 0, size, s, len(want), api.OK)
		mustGetText(t, want, 0, size-1, "", 0, api.ErrLong)
	}
}

func TestShortOnlyIfLess(t *testing.T) { // P4.2: as many bytes, or more, are left as they are
	mustPutText(t, "", true, "\x00")
	mustPutText(t, "a", true, "\x01a")
	mustPutText(t, "aa", true, "\x02aa")
	mustPutText(t, "aaa", true, "\x82\x18\xc7")
	mustPutText(t, "&&", true, "\x02&&")
	mustPutText(t, "\x00", true, "\x01\x00")
	mustPutText(t, "\xff\xff", true, "\x02\xff\xff")
	mustPutText(t, strings.Repeat("Z", 200), true, "\x7f\x49"+strings.Repeat("Z", 200))
	mustPutText(t, strings.Repeat("\x0a", api.MaxText), true, "\x7f\x81\x7f"+strings.Repeat("\x0a", api.MaxText))
}

func TestPutTextLong(t *testing.T) { // P4.2, P2
	for _, size := range []int{api.MaxText + 1, api.MaxText * 2, 1 << 20} {
		for _, letter := range []string{"a", "\x0a"} {
			for _, short := range []bool{false, true} {
				if b, e := prefix.PutText(strings.Repeat(letter, size), short); len(b) != 0 || e != api.ErrLong {
					t.Errorf("PutText of %d bytes = %d bytes, %d, want none, ErrLong", size, len(b), e)
				}
			}
		}
	}
}

func TestGetTextArguments(t *testing.T) { // P4.2, P1, P2, P6
	for _, b := range []string{"", "\x00", "\x02ab", "\x7f\xff\xff\xff\xff\xff", "\x81\xff"} {
		for _, most := range append(strange(), api.MaxText+1) {
			mustGetText(t, b, 0, most, "", 0, api.ErrArg)
			mustGetText(t, b, len(b), most, "", 0, api.ErrArg)
		}
		for _, at := range append(strange(), len(b)+1, len(b)+2) {
			mustGetText(t, b, at, 0, "", 0, api.ErrArg)
			mustGetText(t, b, at, api.MaxText, "", 0, api.ErrArg)
		}
	}
}

func TestGetTextLength(t *testing.T) { // P4.2: the errors of the length are Get's
	for _, first := range []string{"\x7f", "\xff"} {
		mustGetText(t, "", 0, 9, "", 0, api.ErrShort)
		mustGetText(t, first, 0, 9, "", 1, api.ErrShort)
		mustGetText(t, first, 1, 9, "", 1, api.ErrShort)
		mustGetText(t, "ab"+first+"\x80", 2, 9, "", 4, api.ErrShort)
		mustGetText(t, "ab"+first+"\x81\xff\xff\xff\x07", 2, 9, "", 7, api.ErrLong)
		mustGetText(t, "ab"+first+"\x80\x80\x80\x80\x80\x00", 2, 9, "", 8, api.ErrLong)
		mustGetText(t, "ab"+first+"\x80\xff\xff\xff\x07", 2, 9, "", 2, api.ErrLong) // MaxInt: read, but above most
	}
}

func TestGetTextMost(t *testing.T) { // P4.2: above most ahead of too few bytes, and of what the bytes are
	mustGetText(t, "\x03abc", 0, 2, "", 0, api.ErrLong)
	mustGetText(t, "\x03abc", 0, 0, "", 0, api.ErrLong)
	mustGetText(t, "x\x03", 1, 2, "", 1, api.ErrLong)
	mustGetText(t, "x\x03", 1, 3, "", 2, api.ErrShort)
	mustGetText(t, "x\x83\x00\x00\x00", 1, 2, "", 1, api.ErrLong)
	mustGetText(t, "\x00", 0, 0, "", 1, api.OK)
	mustGetText(t, "\x80", 0, 0, "", 1, api.OK)
	mustGetText(t, "\x7f\x82\x7f"+strings.Repeat("a", api.MaxText+1), 0, api.MaxText, "", 0, api.ErrLong)
	mustGetText(t, "\x86\xa8\xeb\x10\x64\x9c\xbf", 0, 7, "", 0, api.ErrLong)
	mustGetText(t, "xy\x86\xa8\xeb\x10\x64\x9c\xbf", 2, 6, "", 2, api.ErrLong)
	mustGetText(t, "xy\x86\xa8\xeb\x10\x64\x9c\xbf", 2, 5, "", 2, api.ErrLong)
}

func TestGetTextCut(t *testing.T) { // P4.2: ErrShort wherever a text is cut off
	for _, whole := range []string{"\x04abcd", "\x86\xa8\xeb\x10\x64\x9c\xbf", "\x7f\x01" + strings.Repeat("a", 128)} {
		for size := range len(whole) {
			mustGetText(t, whole[:size], 0, 200, "", size, api.ErrShort)
			mustGetText(t, "\x00"+whole[:size], 1, 200, "", size+1, api.ErrShort)
		}
	}
}

func TestGetTextCode(t *testing.T) { // P4.2: Huffman's errors, with places in all of b
	mustGetText(t, "\x81\xff", 0, 9, "", 2, api.ErrPad)
	mustGetText(t, "ab\x81\x00cd", 2, 9, "", 4, api.ErrPad)
	mustGetText(t, "\x84\xff\xff\xff\xff", 0, 9, "", 4, api.ErrEos)
	mustGetText(t, "ab\x86\xff\xff\xff\xff\xff\xffcd", 2, 9, "", 6, api.ErrEos)
	mustGetText(t, "\x85\x07\xff\xff\xff\xff", 0, 9, "", 5, api.ErrEos)
	mustGetText(t, "\xff\x00"+strings.Repeat("\xff", 127), 0, 200, "", 5, api.ErrEos)
	mustGetText(t, "\x04\xff\xff\xff\xff", 0, 9, "\xff\xff\xff\xff", 5, api.OK)
	mustGetText(t, "\x82\x00\x00", 0, 2, "", 3, api.ErrPad) // ahead of three letters being too many
}

func TestGetTextNoughts(t *testing.T) { // P4.2: its length may have noughts at the end
	text := strings.Repeat("b", 127)
	mustGetText(t, "\x7f\x80\x80\x80\x80\x00"+text+"c", 0, 127, text, 6+127, api.OK)
}

func TestTextsReadBack(t *testing.T) { // P4.3
	var all strings.Builder
	for i := range 600 {
		all.WriteByte(byte(i * 131 % 257))
	}
	for size := range 600 {
		for _, s := range []string{all.String()[:size], all.String()[600-size:], strings.Repeat("e", size)} {
			for _, short := range []bool{false, true} {
				b, e := prefix.PutText(s, short)
				if e != api.OK {
					t.Fatalf("PutText(%q, %t): %d", s, short, e)
				}
				mustGetText(t, string(b), 0, size, s, len(b), api.OK)
				mustGetText(t, "\xff\xff"+string(b)+"\xff\x00", 2, api.MaxText, s, len(b)+2, api.OK)
			}
		}
	}
}

func TestNone(t *testing.T) { // P3
	for _, b := range [][]byte{nil, {}} {
		if n, at, e := prefix.Get(b, 0, 5); n != 0 || at != 0 || e != api.ErrShort {
			t.Errorf("Get of none = %d, %d, %d", n, at, e)
		}
		if s, at, e := prefix.GetText(b, 0, 5); s != "" || at != 0 || e != api.ErrShort {
			t.Errorf("GetText of none = %q, %d, %d", s, at, e)
		}
	}
}

func TestMemory(t *testing.T) { // P4
	b := []byte("\x02ab\x86\xa8\xeb\x10\x64\x9c\xbf\x1f\x9a\x0a")
	was := bytes.Clone(b)
	plain, _, _ := prefix.GetText(b, 0, 9)
	code, _, _ := prefix.GetText(b, 3, 9)
	prefix.Get(b, 10, 5)
	if !bytes.Equal(b, was) {
		t.Errorf("bytes became % x, want % x", b, was)
	}
	clear(b)
	if plain != "ab" || code != "no-cache" {
		t.Errorf("texts became %q, %q", plain, code)
	}
	for _, short := range []bool{false, true} {
		one, _ := prefix.PutText("ab", short)
		clear(append(one, 9))
		clear(one)
		mustPutText(t, "ab", short, "\x02ab")
	}
	one, _ := prefix.Put(0, 5, 1337)
	clear(one)
	mustPut(t, 0, 5, 1337, "\x1f\x9a\x0a")
}
