package hpack_test

import (
	"bytes"
	"encoding/hex"
	"math"
	"math/rand"
	"slices"
	"strings"
	"testing"

	"aqueduct/api"
	"aqueduct/hpack"
	"aqueduct/prefix"
	"aqueduct/table"
)

func encoder(t *testing.T, most int) *hpack.Encoder {
	t.Helper()
	x, e := hpack.NewEncoder(most)
	if x == nil || e != api.OK {
		t.Fatalf("NewEncoder(%d) = %v, %d", most, x, e)
	}
	return x
}

func decoder(t *testing.T, most, list int) *hpack.Decoder {
	t.Helper()
	d, e := hpack.NewDecoder(most, list)
	if d == nil || e != api.OK {
		t.Fatalf("NewDecoder(%d, %d) = %v, %d", most, list, d, e)
	}
	return d
}

// headers are those of names and values by turns; a name that begins with * is that of a secret one.
func headers(texts ...string) []api.Header {
	var l []api.Header
	for i := 0; i < len(texts); i += 2 {
		name, secret := strings.CutPrefix(texts[i], "*")
		l = append(l, api.Header{Name: name, Value: texts[i+1], Secret: secret})
	}
	return l
}

// raw are the bytes of digits of base 16, blanks left out.
func raw(t *testing.T, digits string) string {
	t.Helper()
	b, err := hex.DecodeString(strings.ReplaceAll(digits, " ", ""))
	if err != nil {
		t.Fatal(err)
	}
	return string(b)
}

func mustEncode(t *testing.T, x *hpack.Encoder, want string, l ...api.Header) {
	t.Helper()
	if b, e := x.Encode(l); string(b) != want || e != api.OK {
		t.Errorf("Encode(%.80v) = % .80x, %d, want % .80x", l, b, e, want)
	}
}

func mustLimit(t *testing.T, x *hpack.Encoder, limits ...int) {
	t.Helper()
	for _, most := range limits {
		if e := x.Limit(most); e != api.OK {
			t.Errorf("Limit(%d) = %d", most, e)
		}
	}
}

func mustDecode(t *testing.T, d *hpack.Decoder, b string, want ...api.Header) {
	t.Helper()
	if l, at, e := d.Decode([]byte(b)); !slices.Equal(l, want) || at != 0 || e != api.OK {
		t.Errorf("Decode(% .80x) = %.80v, %d, %d, want %.80v", b, l, at, e, want)
	}
}

// mustFail asks for a fault of a block, and that nothing is decoded behind it, and what is told of the table has not changed.
func mustFail(t *testing.T, d *hpack.Decoder, b string, at int, e api.Errno) {
	t.Helper()
	size, most := d.Bytes(), d.Most()
	if l, gat, ge := d.Decode([]byte(b)); len(l) != 0 || gat != at || ge != e {
		t.Errorf("Decode(% .80x) = %.80v, %d, %d, want none, %d, %d", b, l, gat, ge, at, e)
	}
	for _, next := range []string{"\x82", "", "\x80", b} {
		if l, gat, ge := d.Decode([]byte(next)); len(l) != 0 || gat != 0 || ge != api.ErrState {
			t.Errorf("Decode(% .80x) behind a fault = %.80v, %d, %d, want none, 0, ErrState", next, l, gat, ge)
		}
	}
	mustHold(t, d, size, most)
}

// mustFailNew asks for a fault of the first block of a decoder with a table of 4096 bytes.
func mustFailNew(t *testing.T, b string, at int, e api.Errno) {
	t.Helper()
	mustFail(t, decoder(t, 4096, 1<<20), b, at, e)
}

func mustHold(t *testing.T, d *hpack.Decoder, size, most int) {
	t.Helper()
	if d.Bytes() != size || d.Most() != most {
		t.Errorf("Bytes %d, Most %d, want %d, %d", d.Bytes(), d.Most(), size, most)
	}
}

// strange are ints that are no size.
func strange() []int {
	return []int{math.MinInt, math.MinInt + 1, -1 << 32, 1 - 1<<32, -4096, -1, api.MaxTable + 1, 1 << 32, 1<<32 + 1, 1 << 62, math.MaxInt - 1, math.MaxInt}
}

func TestExamples(t *testing.T) { // P6.2, P6.3
	custom := "\x40\x88\x25\xa8\x49\xe9\x5b\xa9\x7d\x7f\x89\x25\xa8\x49\xe9\x5b\xb8\xe8\xb4\xbf"
	mustEncode(t, encoder(t, 4096), "\x82", headers(":method", "GET")...)
	mustEncode(t, encoder(t, 4096), custom, headers("custom-key", "custom-value")...)
	mustEncode(t, encoder(t, 4096), "\x1f\x11\x01a", headers("*cookie", "a")...)
	mustDecode(t, decoder(t, 4096, 100), "\x82", headers(":method", "GET")...)
	mustDecode(t, decoder(t, 4096, 100), custom, headers("custom-key", "custom-value")...)
	mustFailNew(t, "\x80", 0, api.ErrIndex)
	mustFailNew(t, "\xbe", 0, api.ErrIndex)
	mustFailNew(t, "\x82\x20", 1, api.ErrSize)
}

func TestNew(t *testing.T) { // P6.1, P6.3, P6.4, P1, P2, P6
	for _, most := range []int{0, 1, 32, 4096, api.MaxTable - 1, api.MaxTable} {
		if x := encoder(t, most); x.Bytes() != 0 {
			t.Errorf("Bytes %d of a new encoder", x.Bytes())
		}
		for _, list := range []int{0, 1, 1 << 40, math.MaxInt} {
			mustHold(t, decoder(t, most, list), 0, most)
		}
		for _, list := range []int{-1, -2, -1 << 40, math.MinInt} {
			if d, e := hpack.NewDecoder(most, list); d != nil || e != api.ErrArg {
				t.Errorf("NewDecoder(%d, %d) = %v, %d, want nil, ErrArg", most, list, d, e)
			}
		}
	}
	for _, most := range strange() {
		if x, e := hpack.NewEncoder(most); x != nil || e != api.ErrArg {
			t.Errorf("NewEncoder(%d) = %v, %d, want nil, ErrArg", most, x, e)
		}
		for _, list := range []int{-1, 0, 100, math.MaxInt} {
			if d, e := hpack.NewDecoder(most, list); d != nil || e != api.ErrArg {
				t.Errorf("NewDecoder(%d, %d) = %v, %d, want nil, ErrArg", most, list, d, e)
			}
		}
	}
}

func TestZero(t *testing.T) { // P6.4, P1
	long := make([]api.Header, api.MaxHeaders+1)
	for _, x := range []*hpack.Encoder{nil, {}, new(hpack.Encoder)} {
		for _, most := range append(strange(), 0, 1, 4096) {
			if e := x.Limit(most); e != api.ErrZero {
				t.Errorf("Limit(%d) = %d, want ErrZero", most, e)
			}
		}
		for _, l := range [][]api.Header{nil, {}, headers(":method", "GET"), long} {
			if b, e := x.Encode(l); len(b) != 0 || e != api.ErrZero {
				t.Errorf("Encode(%.40v) = % x, %d, want none, ErrZero", l, b, e)
			}
		}
		if x.Bytes() != 0 {
			t.Errorf("Bytes %d, want 0", x.Bytes())
		}
	}
	for _, d := range []*hpack.Decoder{nil, {}, new(hpack.Decoder)} {
		for _, b := range []string{"", "\x82", "\x80", "\x20"} {
			if l, at, e := d.Decode([]byte(b)); len(l) != 0 || at != 0 || e != api.ErrZero {
				t.Errorf("Decode(% x) = %v, %d, %d, want none, 0, ErrZero", b, l, at, e)
			}
		}
		mustHold(t, d, 0, 0)
	}
}

// size is the bytes of a size update.
func size(t *testing.T, n int) string {
	t.Helper()
	b, e := prefix.Put(0x20, 5, n)
	if e != api.OK {
		t.Fatal(e)
	}
	return string(b)
}

func TestSizeUpdates(t *testing.T) { // P6.1: what each row of limits leads to, at an encoder that had told 100
	for _, c := range []struct {
		limits, told []int
	}{
		{nil, nil},
		{[]int{100}, nil},
		{[]int{100, 100}, nil},
		{[]int{99}, []int{99}},
		{[]int{101}, []int{101}},
		{[]int{0}, []int{0}},
		{[]int{api.MaxTable}, []int{api.MaxTable}},
		{[]int{200, 100}, nil},
		{[]int{200, 150}, []int{150}},
		{[]int{150, 200}, []int{200}},
		{[]int{50, 100}, []int{50, 100}},
		{[]int{99, 100}, []int{99, 100}},
		{[]int{50, 60}, []int{50, 60}},
		{[]int{60, 50}, []int{50}},
		{[]int{50, 50}, []int{50}},
		{[]int{50, 200}, []int{50, 200}},
		{[]int{200, 50}, []int{50}},
		{[]int{200, 50, 100}, []int{50, 100}},
		{[]int{70, 50, 60, 80}, []int{50, 80}},
		{[]int{100, 200, 300}, []int{300}},
		{[]int{0, api.MaxTable}, []int{0, api.MaxTable}},
	} {
		for _, l := range [][]api.Header{nil, headers(":method", "GET")} {
			x := encoder(t, 100)
			mustLimit(t, x, c.limits...)
			want := ""
			for _, n := range c.told {
				want += size(t, n)
			}
			mustEncode(t, x, want+strings.Repeat("\x82", len(l)), l...)
			mustEncode(t, x, "")
		}
	}
}

func TestSizeUpdatesLater(t *testing.T) { // P6.1: what counts is the size that the last block's table had, and limits since then
	x := encoder(t, 4096)
	mustLimit(t, x, 10, 100)
	mustEncode(t, x, "\x2a\x3f\x45")
	mustLimit(t, x, 4096)
	mustEncode(t, x, "\x3f\xe1\x1f")
	mustLimit(t, x, 4096)
	mustEncode(t, x, "")
	mustLimit(t, x, 30)
	mustEncode(t, x, "\x3e")
	mustLimit(t, x, 31)
	mustEncode(t, x, "\x3f\x00")
	mustLimit(t, x, 40, 31)
	mustEncode(t, x, "")
	mustLimit(t, x, 40, 30)
	mustEncode(t, x, "\x3e")
}

func TestLimitArguments(t *testing.T) { // P6.1, P1, P2, P6: nothing has changed
	x := encoder(t, 100)
	mustEncode(t, x, "\x40\x01a\x01b", headers("a", "b")...)
	for _, most := range strange() {
		if e := x.Limit(most); e != api.ErrArg {
			t.Errorf("Limit(%d) = %d, want ErrArg", most, e)
		}
	}
	mustEncode(t, x, "\xbe", headers("a", "b")...)
	mustLimit(t, x, 50)
	x.Limit(-1)
	x.Limit(api.MaxTable + 1)
	mustEncode(t, x, "\x3f\x13\xbe", headers("a", "b")...)
}

func TestLimitAtOnce(t *testing.T) { // P6.1, P6.4
	x := encoder(t, 200)
	mustEncode(t, x, "\x40\x01a\x01b\x40\x01c\x00\x40\x01d\x01e", headers("a", "b", "c", "", "d", "e")...)
	for _, c := range []struct{ most, size int }{{200, 101}, {101, 101}, {100, 67}, {67, 67}, {66, 34}, {200, 34}, {33, 0}, {200, 0}} {
		mustLimit(t, x, c.most)
		if x.Bytes() != c.size {
			t.Errorf("Bytes behind Limit(%d) = %d, want %d", c.most, x.Bytes(), c.size)
		}
	}
	mustEncode(t, x, "\x3f\x02\x3f\xa9\x01\x40\x01a\x01b", headers("a", "b")...)
}

func TestEncodeKinds(t *testing.T) { // P6.2
	x := encoder(t, 200)
	mustEncode(t, x, "")
	mustEncode(t, x, "\x82\x87\x84\x8e\x90", headers(":method", "GET", ":scheme", "https", ":path", "/", ":status", "500", "accept-encoding", "gzip, deflate")...)
	mustEncode(t, x, "\x42\x02&&", headers(":method", "&&")...) // a static name, 62 from now on
	mustEncode(t, x, "\xbe", headers(":method", "&&")...)
	mustEncode(t, x, "\x40\x01a\x01b\x7e\x01c\xbe\xbf\xc0", headers("a", "b", "a", "c", "a", "c", "a", "b", ":method", "&&")...)
	mustEncode(t, x, "\x7e\x00", headers("a", "")...)
	mustEncode(t, x, "\x40\x00\x00", headers("", "")...)
	mustEncode(t, x, "\xbe", headers("", "")...)
	if x.Bytes() != 33+34+34+32+41 {
		t.Errorf("Bytes = %d", x.Bytes())
	}
}

func TestEncodeSecret(t *testing.T) { // P6.2, P6.5: never, whatever Find tells, and no entry is made
	x := encoder(t, 200)
	mustEncode(t, x, "\x12\x03GET", headers("*:method", "GET")...) // whole, and still not indexed
	mustEncode(t, x, "\x13\x04POST", headers("*:method", "POST")...)
	mustEncode(t, x, "\x12\x02&&", headers("*:method", "&&")...)
	mustEncode(t, x, "\x10\x01a\x01b\x10\x01a\x01b", headers("*a", "b", "*a", "b")...)
	mustEncode(t, x, "\x1f\x08\x01x", headers("*authorization", "x")...)
	if x.Bytes() != 0 {
		t.Errorf("Bytes = %d behind secret headers alone", x.Bytes())
	}
	mustEncode(t, x, "\x40\x01a\x01b\x1f\x2f\x01b\x1f\x2f\x01c\xbe", headers("a", "b", "*a", "b", "*a", "c", "a", "b")...)
	mustEncode(t, x, "\x7e\x01c", headers("a", "c")...)
	mustEncode(t, encoder(t, 0), "\x10\x01a\x01b", headers("*a", "b")...)
}

func TestEncodeSize(t *testing.T) { // P6.2: as large as the table may be: an entry; one more: none, and none falls
	for _, most := range []int{34, 40, 100, 4096} {
		x := encoder(t, most)
		fits, over := strings.Repeat("\x01", most-33), strings.Repeat("\x01", most-32)
		value, _ := prefix.PutText(fits, true)
		mustEncode(t, x, "\x40\x01x"+string(value)+"\xbe", headers("x", fits, "x", fits)...)
		value, _ = prefix.PutText(over, true)
		mustEncode(t, x, "\x0f\x2f"+string(value), headers("x", over)...)
		mustEncode(t, x, "\x00\x01y"+string(value), headers("y", over)...)
		mustEncode(t, x, "\x02"+string(value), headers(":method", strings.Repeat("\x01", most-32))...)
		if x.Bytes() != most {
			t.Errorf("Bytes = %d, want %d", x.Bytes(), most)
		}
		mustEncode(t, x, "\xbe", headers("x", fits)...)
	}
	x := encoder(t, 0)
	mustEncode(t, x, "\x00\x00\x00\x02\x00\x82", headers("", "", ":method", "", ":method", "GET")...)
	x = encoder(t, 31)
	mustEncode(t, x, "\x00\x00\x00", headers("", "")...)
	x = encoder(t, 32)
	mustEncode(t, x, "\x40\x00\x00\xbe", headers("", "", "", "")...)
}

func TestEncodeFalls(t *testing.T) { // P6.2: the index is looked for ahead of the entry that lets the named one fall
	x, d := encoder(t, 40), decoder(t, 40, 1000)
	for i, want := range []string{"\x40\x01a\x01b", "\x7e\x01c", "\x7e\x01b", "\x40\x01d\x00", "\x40\x01a\x01b"} {
		l := headers([][]string{{"a", "b"}, {"a", "c"}, {"a", "b"}, {"d", ""}, {"a", "b"}}[i]...)
		mustEncode(t, x, want, l...)
		mustDecode(t, d, want, l...)
	}
}

func TestEncodeLong(t *testing.T) { // P6.2, P2: nothing has changed
	most := strings.Repeat("a", api.MaxText)
	for _, l := range [][]api.Header{
		make([]api.Header, api.MaxHeaders+1), make([]api.Header, 1<<16),
		headers("x", "y", "n", most+"a"), headers("x", "y", most+"a", "v"), headers("*n", most+"a", "x", "y"), headers("*"+most+"a", ""),
		headers("x", strings.Repeat("\x01", api.MaxText+1)), headers("x", strings.Repeat("a", 1<<20)),
	} {
		x := encoder(t, 4096)
		mustEncode(t, x, "\x40\x01a\x01b", headers("a", "b")...)
		mustLimit(t, x, 10, 100)
		if b, e := x.Encode(l); len(b) != 0 || e != api.ErrLong {
			t.Errorf("Encode of %d headers = %d bytes, %d, want none, ErrLong", len(l), len(b), e)
		}
		if x.Bytes() != 0 { // by the limit 10
			t.Errorf("Bytes = %d, want 0", x.Bytes())
		}
		mustEncode(t, x, "\x2a\x3f\x45\x40\x01x\x01y", headers("x", "y")...)
	}
}

func TestEncodeLongest(t *testing.T) { // P6.2, P6.5: at the limits all is as below them
	most := strings.Repeat("a", api.MaxText)
	x, d := encoder(t, 4096), decoder(t, 4096, math.MaxInt)
	for _, l := range [][]api.Header{headers(most, most), headers("*"+most, most), headers(strings.Repeat("\x0a", api.MaxText), strings.Repeat("\xff", api.MaxText)), make([]api.Header, api.MaxHeaders)} {
		b, e := x.Encode(l)
		if e != api.OK {
			t.Errorf("Encode of %d headers: %d", len(l), e)
		}
		mustDecode(t, d, string(b), l...)
	}
}

func TestDecodeKinds(t *testing.T) { // P6.3
	d := decoder(t, 200, 1000)
	mustDecode(t, d, "")
	mustDecode(t, d, "\x82\xbd", headers(":method", "GET", "www-authenticate", "")...)
	mustDecode(t, d, "\x00\x01a\x01b\x02\x01c\x0f\x2e\x01d", headers("a", "b", ":method", "c", "www-authenticate", "d")...)
	mustDecode(t, d, "\x10\x01a\x01b\x12\x01c\x1f\x2e\x01d", headers("*a", "b", "*:method", "c", "*www-authenticate", "d")...)
	mustHold(t, d, 0, 200)
	mustDecode(t, d, "\x40\x01a\x01b", headers("a", "b")...)
	mustHold(t, d, 34, 200)
	mustDecode(t, d, "\xbe\x42\x01c\xbe\xbf", headers("a", "b", ":method", "c", ":method", "c", "a", "b")...)
	mustHold(t, d, 74, 200)
	mustDecode(t, d, "\x7f\x00\x01e\x0f\x2f\x01f\x1f\x2f\x01g\x7f\x01\x00", headers("a", "e", "a", "f", "*a", "g", "a", "")...)
	mustHold(t, d, 74+34+33, 200)
	mustDecode(t, d, "\xbe\xbf\xc0\xc1", headers("a", "", "a", "e", ":method", "c", "a", "b")...)
	mustDecode(t, d, "\x40\x00\x00\x00\x80\x80", headers("", "", "", "")...) // empty texts, Huffman's too
	mustDecode(t, d, "\x50\x80", headers("accept-encoding", "")...)          // the highest bit of the kind above counts
}

func TestDecodeLargeEntry(t *testing.T) { // P6.3: one that has no room empties the table, and is told all the same
	d := decoder(t, 40, 1000)
	mustDecode(t, d, "\x40\x01a\x01b", headers("a", "b")...)
	mustDecode(t, d, "\x7e\x08cccccccc", headers("a", "cccccccc")...)
	mustHold(t, d, 0, 40)
	mustFail(t, d, "\xbe", 0, api.ErrIndex)
}

func TestDecodeSizes(t *testing.T) { // P6.3, P6.4: any number of size updates, up to most
	d := decoder(t, 100, 1000)
	mustDecode(t, d, "\x40\x01a\x01b\x40\x01c\x01d", headers("a", "b", "c", "d")...)
	mustDecode(t, d, "\x3f\x45")
	mustHold(t, d, 68, 100)
	mustDecode(t, d, "\x3f\x24\xbe", headers("c", "d")...) // 67: the oldest falls
	mustHold(t, d, 34, 67)
	mustDecode(t, d, "\x3f\x45\x3f\x45\x3f\x14\x3f\x45\xbe", headers("c", "d")...)
	mustHold(t, d, 34, 100)
	mustDecode(t, d, "\x20\x3f\x45\x40\x01e\x00", headers("e", "")...)
	mustHold(t, d, 33, 100)
	mustDecode(t, d, "\x20")
	mustHold(t, d, 0, 0)
	mustDecode(t, d, "\x40\x01e\x00", headers("e", "")...)
	mustHold(t, d, 0, 0)
	mustDecode(t, d, "\x3f\xc5\x80\x80\x00") // noughts that could be left out
	mustHold(t, d, 0, 100)
	mustDecode(t, decoder(t, api.MaxTable, 100), "\x3f\xe1\xff\x03\x82", headers(":method", "GET")...)
	mustDecode(t, decoder(t, 0, 100), "\x20\x20\x82", headers(":method", "GET")...)
}

func TestDecodeSizeAbove(t *testing.T) { // P6.3: most is what the decoder was made with, not what was told last
	for _, most := range []int{0, 1, 30, 31, 100, 4096, api.MaxTable} {
		mustFail(t, decoder(t, most, 100), size(t, most+1), 0, api.ErrSize)
		mustFail(t, decoder(t, most, 100), size(t, most)+size(t, 0)+size(t, most+1), len(size(t, most))+1, api.ErrSize)
		mustFail(t, decoder(t, most, 100), size(t, api.MaxInt)+"\x80", 0, api.ErrSize)
		d := decoder(t, most, 100)
		mustDecode(t, d, "\x20")
		mustDecode(t, d, size(t, most))
		mustHold(t, d, 0, most)
		mustFail(t, d, size(t, most+1), 0, api.ErrSize)
	}
}

func TestDecodeSizeLate(t *testing.T) { // P6.3: behind a header of each kind, whatever its integer is
	for _, h := range []string{"\x82", "\x40\x01a\x01b", "\x00\x01a\x01b", "\x10\x01a\x01b", "\x02\x00"} {
		for _, late := range []string{"\x20", "\x3f\x45", "\x3f\xe1\x1f", "\x3f\xe2\x1f", "\x3f", "\x3f\xff\xff\xff\xff\xff"} {
			mustFailNew(t, h+late, len(h), api.ErrSize)
			mustFailNew(t, "\x20\x3f\x45"+h+"\x84"+late+"\x82", 4+len(h), api.ErrSize)
		}
	}
	d := decoder(t, 100, 100)
	mustDecode(t, d, "\x82", headers(":method", "GET")...)
	mustDecode(t, d, "\x20\x82", headers(":method", "GET")...) // another block
	d = decoder(t, 100, 0)
	mustFail(t, d, "\x82\x20", 1, api.ErrSize) // a header that has no room in the list is one too
}

func TestDecodeIndex(t *testing.T) { // P6.3: 0 and what is above the table, with the representation's first place
	mustFailNew(t, "\x82\x80\x82", 1, api.ErrIndex)
	mustFailNew(t, "\x40\x01a\x01b\xbf", 5, api.ErrIndex)
	mustFailNew(t, "\xff\x80\x80\x80\x80\x07", 0, api.ErrIndex)
	mustFailNew(t, "\xff\x00", 0, api.ErrIndex)
	for _, first := range []string{"\x7e", "\x7f\x00", "\x7f\x30", "\x0f\x2f", "\x1f\x2f", "\x0f\xff\xff\x03", "\x1f\xff\xff\x03"} {
		for _, value := range []string{"\x01a", "", "\x02a", "\x81\x00"} {
			mustFailNew(t, first+value, 0, api.ErrIndex)
			mustFailNew(t, "\x82\x84"+first+value, 2, api.ErrIndex)
		}
	}
	d := decoder(t, 100, 1000)
	mustDecode(t, d, "\x40\x01a\x01b\x40\x01c\x01d", headers("a", "b", "c", "d")...)
	mustDecode(t, d, "\x3f\x14") // 51: a falls
	mustDecode(t, d, "\xbe", headers("c", "d")...)
	mustFail(t, d, "\xbf", 0, api.ErrIndex)
}

func TestDecodeShort(t *testing.T) { // P6.3: a block that is cut off within a representation
	for _, whole := range []string{
		"\x40\x02ab\x03cde", "\x00\x02ab\x03cde", "\x10\x02ab\x03cde", "\x42\x03cde", "\x02\x03cde", "\x12\x03cde", "\x1f\x11\x01a",
		"\x40\x88\x25\xa8\x49\xe9\x5b\xa9\x7d\x7f\x89\x25\xa8\x49\xe9\x5b\xb8\xe8\xb4\xbf",
	} {
		for n := 1; n < len(whole); n++ {
			mustFailNew(t, whole[:n], n, api.ErrShort)
			mustFailNew(t, "\x82\x84"+whole[:n], n+2, api.ErrShort)
		}
	}
	for _, first := range []string{"\xff", "\x7f", "\x3f", "\x1f", "\x0f"} {
		mustFailNew(t, first, 1, api.ErrShort)
		mustFailNew(t, "\x20"+first+"\x80\x80", 4, api.ErrShort)
	}
}

func TestDecodeLong(t *testing.T) { // P6.3: integers and texts that are greater than prefix takes
	for _, first := range []string{"\xff", "\x7f", "\x3f", "\x1f", "\x0f"} {
		mustFailNew(t, first+"\xff\xff\xff\xff\x7f", 5, api.ErrLong)
		mustFailNew(t, "\x20"+first+"\x80\x80\x80\x80\x80\x00", 7, api.ErrLong)
	}
	long := "\x7f\x82\x7f" + strings.Repeat("a", api.MaxText+1)
	most := "\x7f\x81\x7f" + strings.Repeat("a", api.MaxText)
	mustFailNew(t, "\x82\x40"+long+"\x00", 2, api.ErrLong)
	mustFailNew(t, "\x82\x40\x01a"+long, 4, api.ErrLong)
	mustFailNew(t, "\x82\x00"+most+long, 5+api.MaxText, api.ErrLong)
	mustFailNew(t, "\x82\x12"+long, 2, api.ErrLong)
	text := strings.Repeat("a", api.MaxText)
	mustDecode(t, decoder(t, 4096, 1<<20), "\x00"+most+most, headers(text, text)...)
}

func TestDecodeCode(t *testing.T) { // P6.3: Huffman's errors
	mustFailNew(t, "\x82\x40\x81\x00\x00", 4, api.ErrPad)
	mustFailNew(t, "\x82\x40\x01a\x81\xff\x00", 6, api.ErrPad)
	mustFailNew(t, "\x42\x84\xff\xff\xff\xff\x00", 5, api.ErrEos)
	mustFailNew(t, "\x10\x84\xff\xff\xff\xff\x00", 5, api.ErrEos)
}

func TestDecodeFails(t *testing.T) { // P6.3, P2: what is told of the table is what was ahead of the block
	d := decoder(t, 100, 1000)
	mustDecode(t, d, "\x3f\x3b\x40\x01a\x01b", headers("a", "b")...)
	mustHold(t, d, 34, 90)
	mustFail(t, d, "\x20\x3f\x45\x40\x01c\x01d\x80", 8, api.ErrIndex)
	mustHold(t, d, 34, 90)
}

func TestDecodeList(t *testing.T) { // P6.3: sizes of headers together, at the limit and one above it
	for _, c := range []struct {
		b    string
		size int
		l    []api.Header
	}{
		{"\x82", 42, headers(":method", "GET")},
		{"\x82\x84", 80, headers(":method", "GET", ":path", "/")},
		{"\x40\x01a\x01b", 34, headers("a", "b")},
		{"\x00\x00\x00", 32, headers("", "")},
		{"\x10\x01a\x01b\x02\x01c", 74, headers("*a", "b", ":method", "c")},
		{"\x40\x01a\x01b\xbe\xbe", 102, headers("a", "b", "a", "b", "a", "b")},
		{"\x20\x3f\x45", 0, nil},
		{"", 0, nil},
	} {
		mustDecode(t, decoder(t, 100, c.size), c.b, c.l...)
		mustDecode(t, decoder(t, 100, math.MaxInt), c.b, c.l...)
		for _, list := range []int{0, c.size - 33, c.size - 32, c.size - 1} {
			if list >= 0 && list < c.size {
				mustBeTooLarge(t, decoder(t, 100, list), c.b)
			}
		}
	}
}

func mustBeTooLarge(t *testing.T, d *hpack.Decoder, b string) {
	t.Helper()
	if l, at, e := d.Decode([]byte(b)); len(l) != 0 || at != 0 || e != api.ErrList {
		t.Errorf("Decode(% .80x) = %.80v, %d, %d, want none, 0, ErrList", b, l, at, e)
	}
}

func TestDecodeListReadsAll(t *testing.T) { // P6.3: it has not failed, and its table is as it must be
	d := decoder(t, 100, 40)
	mustBeTooLarge(t, d, "\x3f\x3b\x82\x40\x01a\x01b\x84\x40\x01c\x01d\x00\x00\x00")
	mustHold(t, d, 68, 90)
	mustDecode(t, d, "\xbe", headers("c", "d")...)
	mustDecode(t, d, "\xbf", headers("a", "b")...)
	mustBeTooLarge(t, d, "\xbf\xbf")
	mustBeTooLarge(t, d, "\x20\x82\x82")
	mustHold(t, d, 0, 0)
	mustDecode(t, d, "")
	mustDecode(t, d, "\x84", headers(":path", "/")...)
	mustFail(t, d, "\x82\x82\x82\x80", 3, api.ErrIndex) // a fault behind what is too large already
}

func TestDecodeGreatList(t *testing.T) { // P6.3: a small block of a great list
	d := decoder(t, api.MaxTable, 1<<20)
	value := strings.Repeat("a", api.MaxText)
	mustDecode(t, d, "\x40\x01x\x7f\x81\x7f"+value, headers("x", value)...)
	mustBeTooLarge(t, d, strings.Repeat("\xbe", 1<<20))
	mustDecode(t, d, "\xbe", headers("x", value)...)
}

// exchange is the blocks that RFC 7541 tells of one kind of messages, each with the table's size behind it.
type exchange struct {
	most   int
	lists  [][]api.Header
	coded  []string // texts in Huffman's code
	plain  []string
	behind []int
}

func requests() exchange {
	first := headers(":method", "GET", ":scheme", "http", ":path", "/", ":authority", "www.example.com")
	return exchange{
		most: 4096,
		lists: [][]api.Header{first, append(slices.Clone(first), headers("cache-control", "no-cache")...),
			headers(":method", "GET", ":scheme", "https", ":path", "/index.html", ":authority", "www.example.com", "custom-key", "custom-value")},
		coded: []string{"828684418cf1e3c2e5f23a6ba0ab90f4ff", "828684be5886a8eb10649cbf", "828785bf408825a849e95ba97d7f8925a849e95bb8e8b4bf"},
		plain: []string{"828684410f7777772e6578616d706c652e636f6d", "828684be58086e6f2d6361636865",
			"828785bf400a637573746f6d2d6b65790c637573746f6d2d76616c7565"},
		behind: []int{57, 110, 164},
	}
}

func responses() exchange {
	date, next, place := "Mon, 21 Oct 2013 20:13:21 GMT", "Mon, 21 Oct 2013 20:13:22 GMT", "https://www.example.com"
	return exchange{
		most: 256,
		lists: [][]api.Header{headers(":status", "302", "cache-control", "private", "date", date, "location", place),
			headers(":status", "307", "cache-control", "private", "date", date, "location", place),
			headers(":status", "200", "cache-control", "private", "date", next, "location", place, "content-encoding", "gzip",
				"set-cookie", "foo=ASDJKHQKBZXOQWEOPIUAXQWEOIU; max-age=3600; version=1")},
		coded: []string{"488264025885aec3771a4b6196d07abe941054d444a8200595040b8166e082a62d1bff6e919d29ad171863c78f0b97c8e9ae82ae43d3",
			"4883640effc1c0bf",
			"88c16196d07abe941054d444a8200595040b8166e084a62d1bffc05a839bd9ab77ad94e7821dd7f2e6c7b335dfdfcd5b3960d5af27087f3672c1ab270fb5291f9587316065c003ed4ee5b1063d5007"},
		plain: []string{"4803333032580770726976617465611d4d6f6e2c203231204f637420323031332032303a31333a323120474d546e1768747470733a2f2f7777772e6578616d706c652e636f6d",
			"4803333037c1c0bf",
			"88c1611d4d6f6e2c203231204f637420323031332032303a31333a323220474d54c05a04677a69707738666f6f3d4153444a4b48514b425a584f5157454f50495541585157454f49553b206d61782d6167653d333630303b2076657273696f6e3d31"},
		behind: []int{222, 222, 215},
	}
}

func TestExchanges(t *testing.T) { // P6.2, P6.3, P6.5
	for _, c := range []exchange{requests(), responses()} {
		x, coded, plain := encoder(t, c.most), decoder(t, c.most, 1000), decoder(t, c.most, 1000)
		for i, l := range c.lists {
			block := raw(t, c.coded[i])
			mustDecode(t, coded, block, l...)
			// The RFC codes texts that become no shorter, too: 307 is the only one of these.
			mustEncode(t, x, strings.ReplaceAll(block, "\x83\x64\x0e\xff", "\x03307"), l...)
			mustDecode(t, plain, raw(t, c.plain[i]), l...)
			mustHold(t, coded, c.behind[i], c.most)
			mustHold(t, plain, c.behind[i], c.most)
			if x.Bytes() != c.behind[i] {
				t.Errorf("Bytes of the encoder = %d, want %d", x.Bytes(), c.behind[i])
			}
		}
	}
}

// drawn answers a list of headers that often come again, some of them secret.
func drawn(draw *rand.Rand) []api.Header {
	names := []string{"a", "bb", "host", ":status", "cookie", "x-long-name-of-a-header", "", strings.Repeat("n", 300)}
	values := []string{"", "1", "200", "some value", "\x00\xff", strings.Repeat("v", 200)}
	var l []api.Header
	for range draw.Intn(9) {
		l = append(l, api.Header{Name: names[draw.Intn(len(names))], Value: values[draw.Intn(len(values))], Secret: draw.Intn(6) == 0})
	}
	return l
}

func TestBothEnds(t *testing.T) { // P6.5: what is written is read, block by block, and the tables stay the same
	draw := rand.New(rand.NewSource(6))
	for range 100 {
		most := draw.Intn(700)
		x, d := encoder(t, most), decoder(t, most, 1<<20)
		now := most
		for range 60 {
			for range max(0, draw.Intn(8)-4) {
				now = draw.Intn(most + 1)
				mustLimit(t, x, now)
			}
			l := drawn(draw)
			b, e := x.Encode(l)
			if e != api.OK {
				t.Fatalf("Encode: %d", e)
			}
			mustDecode(t, d, string(b), l...)
			mustHold(t, d, x.Bytes(), now)
			if t.Failed() {
				return
			}
		}
	}
}

// model writes blocks as the words tell it, with a table of its own.
type model struct {
	*table.Table
	told   int
	limits []int
}

func (m *model) encode(l []api.Header) []byte {
	var b []byte
	put := func(first byte, bits, n int) {
		p, _ := prefix.Put(first, bits, n)
		b = append(b, p...)
	}
	texts := func(index int, h api.Header) {
		if index == 0 {
			p, _ := prefix.PutText(h.Name, true)
			b = append(b, p...)
		}
		p, _ := prefix.PutText(h.Value, true)
		b = append(b, p...)
	}
	if len(m.limits) > 0 {
		least, last := slices.Min(m.limits), m.limits[len(m.limits)-1]
		first := least < m.told && least < last
		if first {
			put(0x20, 5, least)
		}
		if first || last != m.told {
			put(0x20, 5, last)
		}
		m.told, m.limits = last, nil
	}
	for _, h := range l {
		index, whole := m.Find(h)
		if h.Secret {
			put(0x10, 4, index)
			texts(index, h)
		} else if whole {
			put(0x80, 7, index)
		} else if len(h.Name)+len(h.Value)+32 <= m.Most() {
			put(0x40, 6, index)
			texts(index, h)
			m.Add(h)
		} else {
			put(0, 4, index)
			texts(index, h)
		}
	}
	return b
}

func TestAgainstModel(t *testing.T) { // P6.1, P6.2, P6.4
	draw := rand.New(rand.NewSource(7))
	for range 100 {
		most := draw.Intn(700)
		x := encoder(t, most)
		inner, _ := table.New(most)
		m := &model{Table: inner, told: most}
		for range 60 {
			for range max(0, draw.Intn(8)-4) {
				limit := []int{0, most, draw.Intn(700)}[draw.Intn(3)]
				mustLimit(t, x, limit)
				m.Resize(limit)
				m.limits = append(m.limits, limit)
			}
			l := drawn(draw)
			mustEncode(t, x, string(m.encode(l)), l...)
			if x.Bytes() != m.Bytes() || t.Failed() {
				t.Fatalf("Bytes %d, want %d", x.Bytes(), m.Bytes())
			}
		}
	}
}

// sameTable asks that two decoders have the same entries.
func sameTable(t *testing.T, x, y *hpack.Decoder) {
	t.Helper()
	for index := 62; ; index++ {
		b, _ := prefix.Put(0x80, 7, index)
		xl, xat, xe := x.Decode(b)
		yl, yat, ye := y.Decode(b)
		if !slices.Equal(xl, yl) || xat != yat || xe != ye {
			t.Fatalf("entry %d: %v, %d and %v, %d", index, xl, xe, yl, ye)
		}
		if xe != api.OK {
			return
		}
	}
}

func TestListLeavesTable(t *testing.T) { // P6.3, G7: a decoder that refuses lists has the table of one that takes them
	draw := rand.New(rand.NewSource(8))
	refused := 0
	for range 60 {
		most := draw.Intn(700)
		x, all, few := encoder(t, most), decoder(t, most, math.MaxInt), decoder(t, most, 600) // each entry alone has room
		for range 30 {
			b, _ := x.Encode(drawn(draw))
			all.Decode(b)
			_, _, e := few.Decode(b)
			if e == api.ErrList {
				refused++
			}
			mustHold(t, few, all.Bytes(), all.Most())
		}
		sameTable(t, all, few)
	}
	if refused == 0 {
		t.Error("no list was refused")
	}
}

func TestAnyBytes(t *testing.T) { // P1, P5: whatever comes, it ends, twice the same, with a place within the block
	draw := rand.New(rand.NewSource(9))
	for range 20000 {
		b := make([]byte, draw.Intn(40))
		for i := range b {
			b[i] = byte(draw.Intn(256))
			if draw.Intn(2) == 0 {
				b[i] &= 0x83
			}
		}
		x, y := decoder(t, 200, 500), decoder(t, 200, 500)
		for _, cut := range []int{0, len(b) / 2, len(b)} {
			xl, xat, xe := x.Decode(b[:cut])
			yl, yat, ye := y.Decode(b[:cut])
			if !slices.Equal(xl, yl) || xat != yat || xe != ye || xat < 0 || xat > cut || xe != api.OK && len(xl) > 0 {
				t.Fatalf("Decode(% x) = %v, %d, %d and %v, %d, %d", b[:cut], xl, xat, xe, yl, yat, ye)
			}
			if x.Bytes() < 0 || x.Bytes() > x.Most() || x.Most() > 200 {
				t.Fatalf("Bytes %d, Most %d", x.Bytes(), x.Most())
			}
		}
	}
}

func TestNone(t *testing.T) { // P3
	x, d := encoder(t, 100), decoder(t, 100, 100)
	for _, l := range [][]api.Header{nil, {}} {
		if b, e := x.Encode(l); len(b) != 0 || e != api.OK {
			t.Errorf("Encode of none = % x, %d", b, e)
		}
	}
	for _, b := range [][]byte{nil, {}} {
		if l, at, e := d.Decode(b); len(l) != 0 || at != 0 || e != api.OK {
			t.Errorf("Decode of none = %v, %d, %d", l, at, e)
		}
	}
}

func TestMemory(t *testing.T) { // P4: nothing that is handed in is changed or kept, and what is answered is new
	x, d := encoder(t, 1000), decoder(t, 1000, 1000)
	l := headers("a", "b", "*c", "d", ":method", "GET")
	was := slices.Clone(l)
	b, _ := x.Encode(l)
	if !slices.Equal(l, was) {
		t.Errorf("the list became %v", l)
	}
	clear(l)
	block := bytes.Clone(b)
	out, _, _ := d.Decode(block)
	if !bytes.Equal(block, b) {
		t.Errorf("the block became % x", block)
	}
	clear(block)
	clear(b)
	if !slices.Equal(out, was) {
		t.Errorf("the answer became %v", out)
	}
	clear(out)
	mustEncode(t, x, "\xbe", headers("a", "b")...)
	mustDecode(t, d, "\xbe", headers("a", "b")...)
}

func TestApart(t *testing.T) { // P5: ends know nothing of each other
	x, y := encoder(t, 100), encoder(t, 100)
	mustEncode(t, x, "\x40\x01a\x01b", headers("a", "b")...)
	mustLimit(t, x, 50)
	mustEncode(t, y, "\x40\x01a\x01b", headers("a", "b")...)
	d, other := decoder(t, 100, 100), decoder(t, 100, 100)
	mustDecode(t, d, "\x40\x01a\x01b", headers("a", "b")...)
	mustFail(t, d, "\xbf", 0, api.ErrIndex)
	mustHold(t, other, 0, 100)
	mustDecode(t, other, "\x82", headers(":method", "GET")...)
}
