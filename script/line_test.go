package script_test

import (
	"bytes"
	"fmt"
	"reflect"
	"strings"
	"testing"

	"aqueduct/api"
	"aqueduct/script"
)

// numberMost is the greatest number of a line.
const numberMost = 999999999

// names are those of the kinds of events.
var names = []string{"open", "bytes", "close", "budget", "tick", "probe", "back", "stop"}

// same tells whether two events are the same: empty bytes are none (P3).
func same(x, y api.In) bool {
	return x.What == y.What && x.A == y.A && x.B == y.B && x.Draw == y.Draw && bytes.Equal(x.Bytes, y.Bytes)
}

// mustRead asks twice for a line's event (P5).
func mustRead(t *testing.T, s string, want api.In) {
	t.Helper()
	for range 2 {
		if got, at, e := script.Line(s); !same(got, want) || at != 0 || e != api.OK {
			t.Fatalf("Line(%.60q) = %v, %d, %d, want %v", s, got, at, e, want)
		}
	}
}

// mustRefuse asks twice for a line's error; beside it there is no event (P2).
func mustRefuse(t *testing.T, s string, at int, want api.Errno) {
	t.Helper()
	for range 2 {
		if got, place, e := script.Line(s); place != at || e != want || !reflect.DeepEqual(got, api.In{}) {
			t.Fatalf("Line(%.60q) = %v, %d, %d, want %d, %d", s, got, place, e, at, want)
		}
	}
}

// The chapter's examples.
func TestExamples(t *testing.T) {
	mustRead(t, "bytes 0 =0a", api.In{What: api.InBytes, Bytes: []byte{0x0a}})
	mustRefuse(t, "bytes 00", 6, api.ErrForm)
	mustRefuse(t, "open ", 5, api.ErrForm)
	mustPrint(t, api.In{What: api.InBudget, A: 1, B: 50}, "budget 1 50")
	mustPlay(t, config(), "", "pairs 0\n")
	mustPlay(t, config(), "tick", "dial 0\npairs 0\n") // the tenth example of the whole
}

// P23.1: a name alone.
func TestNames(t *testing.T) {
	for what, name := range names {
		mustRead(t, name, api.In{What: what})
		for _, wrong := range []string{name + "s", name[1:], name[:len(name)-1], strings.ToUpper(name), strings.ToUpper(name[:1]) + name[1:], name + "\t", name + "\r", name + "\n", name + "\x00", "\ufeff" + name, name + "=", name + "=00", name + "1", name + "#", "\"" + name + "\"", "\n" + name, name + "\n" + name, name + "\u00a0", name + "\xff", name + name} {
			mustRefuse(t, wrong, 0, api.ErrForm)
			mustRefuse(t, wrong+" 1 2 3 =00", 0, api.ErrForm)
		}
	}
	for _, wrong := range []string{"", "nothing", "dial", "pairs", "InOpen", "0", "1", "7", "=", "=00", "#", "# open", "#open", "\n", "\xff", "\xff open", "é"} {
		mustRefuse(t, wrong, 0, api.ErrForm)
	}
}

// P23.1: numbers, in each of their places, at their ends.
func TestNumbers(t *testing.T) {
	for what, name := range names {
		for _, n := range []int{0, 1, 9, 10, 99, 100, 4096, 65536, 123456789, 999999998, numberMost} {
			mustRead(t, fmt.Sprintf("%s %d", name, n), api.In{What: what, A: n})
			mustRead(t, fmt.Sprintf("%s 5 %d", name, n), api.In{What: what, A: 5, B: n})
			mustRead(t, fmt.Sprintf("%s 5 0 %d", name, n), api.In{What: what, A: 5, Draw: n})
			mustRead(t, fmt.Sprintf("%s 0 0 %d", name, n), api.In{What: what, Draw: n})
			mustRead(t, fmt.Sprintf("%s %d %d %d", name, n, n, n), api.In{What: what, A: n, B: n, Draw: n})
		}
	}
	for n := range 1000 {
		mustRead(t, fmt.Sprintf("back %d", n), api.In{What: api.InBack, A: n})
	}
}

// P23.1: what is no number, in each of their places.
func TestNoNumbers(t *testing.T) {
	for _, wrong := range []string{
		"00", "01", "007", "0000000000", "0999999999", "-1", "+1", "-0", "1000000000", "9999999999", "4294967296", "4294967297", "18446744073709551616", "99999999999999999999999999",
		"1a", "a1", "0x1", "1_0", "1e3", "1.0", ".5", "1,2", "1\n", "1\t", "1=", "1=00", "1#", "１", "٣", "1é", "1\xff", "\xff", "\x00", "1\x00", "/", ":", "1/", "1:", "open", "tick", "x", "#", "# x",
	} {
		mustRefuse(t, "bytes "+wrong, 6, api.ErrForm)
		mustRefuse(t, "budget 1 "+wrong, 9, api.ErrForm)
		mustRefuse(t, "budget 1 2 "+wrong, 11, api.ErrForm)
		mustRefuse(t, "budget 1 2 3 "+wrong, 13, api.ErrForm)
		mustRefuse(t, "budget "+wrong+" 1 2 =00", 7, api.ErrForm)
		mustRefuse(t, "tick =00 "+wrong, 9, api.ErrForm)
	}
}

// P23.1: bytes, behind a name or numbers, of each kind of event.
func TestBytes(t *testing.T) {
	for what, name := range names {
		for count := range 4 {
			head := strings.Join([]string{name, "1", "2", "3"}[:count+1], " ")
			want := api.In{What: what, Bytes: []byte{0x0a, 0xff}}
			for n, part := range []*int{&want.A, &want.B, &want.Draw}[:count] {
				*part = n + 1
			}
			mustRead(t, head+" =0aff", want)
			want.Bytes = nil
			mustRead(t, head, want)
		}
	}
	for n := range 256 {
		mustRead(t, fmt.Sprintf("bytes =%02x", n), api.In{What: api.InBytes, Bytes: []byte{byte(n)}})
		mustRead(t, fmt.Sprintf("bytes 7 =00%02xff", n), api.In{What: api.InBytes, A: 7, Bytes: []byte{0, byte(n), 255}})
	}
	mustRead(t, "bytes 1 =0123456789abcdef", api.In{What: api.InBytes, A: 1, Bytes: []byte{0x01, 0x23, 0x45, 0x67, 0x89, 0xab, 0xcd, 0xef}})
	mustRead(t, "bytes 1 =", api.In{What: api.InBytes, A: 1}) // no digit: their number is even
}

// P23.1: what is no bytes.
func TestNoBytes(t *testing.T) {
	for _, wrong := range []string{
		"=0", "=000", "=0A", "=A0", "=FF", "=0g", "=g0", "=0`", "=0/", "=:0", "=@0", "==", "==00", "=00=", "=0=", "=-1", "=0x00", "=0\n", "=\n", "=00\n", "=00\r", "=0 0", "=0\t", "=é", "=0é", "=é0", "=\xff", "=\xff\xff", "=00\xff\xff", "=\x00\x00", "=١", "=#", "=00#0",
	} {
		mustRefuse(t, "bytes "+wrong, 6, api.ErrForm)
		mustRefuse(t, "bytes 0 "+wrong, 8, api.ErrForm)
		mustRefuse(t, "bytes 0 1 "+wrong, 10, api.ErrForm)
		mustRefuse(t, "bytes 0 1 2 "+wrong, 12, api.ErrForm)
		mustRefuse(t, wrong, 0, api.ErrForm)
	}
	for n := range 256 {
		if s := string([]byte{byte(n)}); !strings.Contains("0123456789abcdef", s) {
			mustRefuse(t, "bytes =0"+s, 6, api.ErrForm)
			if s != " " {
				mustRefuse(t, "bytes ="+s+"0", 6, api.ErrForm)
			}
		}
	}
}

// P23.1: words that are in the wrong place, the first of them; an empty one can stand nowhere.
func TestOrder(t *testing.T) {
	for _, c := range []struct {
		s  string
		at int
	}{
		{"budget 1 2 3 4", 13}, {"budget 1 2 3 4 5", 13}, {"budget 1 2 3 =00 4", 17}, {"bytes =00 1", 10}, {"bytes =00 =00", 10}, {"bytes = =", 8}, {"bytes 1 =00 2 =00", 12},
		{"1 open", 0}, {"=00 open", 0}, {"open open", 5}, {"open 1 open", 7}, {"open 1 2 3 open", 11}, {"open =00 open", 9},
		{" ", 0}, {" open", 0}, {"  open", 0}, {"open ", 5}, {"open  ", 5}, {"open  1", 5}, {"open 1 ", 7}, {"open 1  2", 7}, {"open 1 2 3 ", 11}, {"open =00 ", 9}, {"open  =00", 5}, {"open 1 2 3  =00", 11},
		{"nothing 01 =0", 0}, {"open 01 x =0", 5}, {"open 1 x 01", 7}, {"open 1 2 =0 3", 9}, {"open 1 2 3 4 =0", 11},
		{"open\t1", 0}, {"open 1\t2", 5}, {"open 1\n2", 5}, {"open 1\u00a02", 5}, {"open 1 # remark", 7}, {"open # remark", 5},
	} {
		mustRefuse(t, c.s, c.at, api.ErrForm)
	}
}

// long is a line with bytes that has so many bytes itself: of an even number with "open", of an odd one with "bytes".
func long(size int) string {
	name := "open"
	if size%2 != 0 {
		name = "bytes"
	}
	return name + " =" + strings.Repeat("0f", (size-len(name)-2)/2)
}

// P23.1: a line of MaxScript bytes, and one more: ErrLong is ahead of ErrForm.
func TestLongLines(t *testing.T) {
	const most = api.MaxScript
	for _, size := range []int{most - 2, most - 1, most} {
		s := long(size)
		if len(s) != size {
			t.Fatalf("long(%d) has %d bytes", size, len(s))
		}
		want := api.In{What: map[int]int{0: api.InOpen, 1: api.InBytes}[size%2], Bytes: bytes.Repeat([]byte{0x0f}, (size-6)/2)}
		mustRead(t, s, want)
		mustRefuse(t, "x"+s[1:], 0, api.ErrForm)
		mustRefuse(t, s[:size-1]+"x", 5+size%2, api.ErrForm)
		mustRefuse(t, s[:size-1]+" ", 5+size%2, api.ErrForm)
	}
	for _, size := range []int{most + 1, most + 2, most + 3, 2*most + 1, 1 << 22} {
		mustRefuse(t, long(size), 0, api.ErrLong)
		mustRefuse(t, strings.Repeat(" ", size), 0, api.ErrLong)
		mustRefuse(t, "open 01"+strings.Repeat(" ", size-7), 0, api.ErrLong)
		mustRefuse(t, "#"+strings.Repeat("\n", size-1), 0, api.ErrLong)
	}
	for _, s := range []string{" ", "1", "=", "#", "\n", "a", "\xff"} {
		mustRefuse(t, strings.Repeat(s, most), 0, api.ErrForm)
	}
	mustRefuse(t, "tick "+strings.Repeat("9", most-5), 5, api.ErrForm)
	mustRefuse(t, "tick "+strings.Repeat("0", most-5), 5, api.ErrForm)
	mustRefuse(t, "tick "+strings.Repeat(" ", most-5), 5, api.ErrForm)
	mustRefuse(t, "tick 1 2 3 4"+strings.Repeat(" 5", (most-12)/2), 11, api.ErrForm)
}

// P4: bytes that are answered are new at each call.
func TestLineMemory(t *testing.T) {
	const s = "bytes 1 =00ff00ff"
	first, _, _ := script.Line(s)
	second, _, _ := script.Line(s)
	clear(first.Bytes[:cap(first.Bytes)])
	if want := []byte{0, 255, 0, 255}; !bytes.Equal(second.Bytes, want) {
		t.Errorf("%x", second.Bytes)
	}
	mustRead(t, s, second)
}
