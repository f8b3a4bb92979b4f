package field_test

import (
	"bytes"
	"math"
	"testing"

	"aqueduct/api"
	"aqueduct/field"
)

// kind is a reader, and the writer of what it reads.
type kind struct {
	name string
	size int
	most int
	get  func([]byte, int) (int, int, api.Errno)
	put  func(int) ([]byte, api.Errno)
}

func kinds() []kind {
	return []kind{
		{"16", 2, 1<<16 - 1, field.U16, field.Put16},
		{"24", 3, 1<<24 - 1, field.U24, field.Put24},
		{"31", 4, 1<<31 - 1, field.U31, field.Put31},
		{"32", 4, 1<<32 - 1, getAll, putAll},
	}
}

// getAll is U32 in the form of the other readers.
func getAll(b []byte, at int) (int, int, api.Errno) {
	n, next, e := field.U32(b, at)
	return int(n), next, e
}

// putAll is Put32 in the form of the other writers.
func putAll(n int) ([]byte, api.Errno) {
	return field.Put32(uint32(n)), api.OK
}

func mustRead(t *testing.T, k kind, b []byte, at, n, next int, e api.Errno) {
	t.Helper()
	if gn, gnext, ge := k.get(b, at); gn != n || gnext != next || ge != e {
		t.Errorf("U%s(% x, %d) = %d, %d, %d, want %d, %d, %d", k.name, b, at, gn, gnext, ge, n, next, e)
	}
}

func mustPut(t *testing.T, k kind, n int, want string) {
	t.Helper()
	if b, e := k.put(n); string(b) != want || e != api.OK {
		t.Errorf("Put%s(%d) = % x, %d, want % x", k.name, n, b, e, want)
	}
}

func TestExamples(t *testing.T) { // P2.1
	k := kinds()
	mustRead(t, k[0], []byte{1, 2}, 0, 258, 2, api.OK)
	mustRead(t, k[0], []byte{1}, 0, 0, 1, api.ErrShort)
	mustRead(t, k[2], []byte{0x80, 0, 0, 7}, 0, 7, 4, api.OK)
	mustPut(t, k[1], 258, "\x00\x01\x02")
}

func TestRead(t *testing.T) { // P2.1
	b := []byte{0xfe, 0xdc, 0xba, 0x98, 0x76, 0xff}
	want := [][]int{
		{0xfedc, 0xdcba, 0xba98, 0x9876, 0x76ff},
		{0xfedcba, 0xdcba98, 0xba9876, 0x9876ff},
		{0x7edcba98, 0x5cba9876, 0x3a9876ff},
		{0xfedcba98, 0xdcba9876, 0xba9876ff},
	}
	for i, k := range kinds() {
		for at, n := range want[i] {
			mustRead(t, k, b, at, n, at+k.size, api.OK)
		}
	}
}

func TestReadOnes(t *testing.T) { // P2.1
	for _, k := range kinds() {
		mustRead(t, k, bytes.Repeat([]byte{255}, k.size), 0, k.most, k.size, api.OK)
		mustRead(t, k, make([]byte, k.size), 0, 0, k.size, api.OK)
	}
}

func TestReadShort(t *testing.T) { // P2.1, P2
	for _, k := range kinds() {
		for size := range 7 {
			b := bytes.Repeat([]byte{255}, size)
			for at := max(0, size-k.size+1); at <= size; at++ {
				mustRead(t, k, b, at, 0, size, api.ErrShort)
			}
		}
	}
}

func TestReadPlace(t *testing.T) { // P2.1, P1, P6
	for _, k := range kinds() {
		for size := range 7 {
			b := bytes.Repeat([]byte{255}, size)
			for _, at := range []int{math.MinInt, -k.size, -1, size + 1, math.MaxInt - 1, math.MaxInt} {
				mustRead(t, k, b, at, 0, 0, api.ErrArg)
			}
		}
	}
}

func TestReadNone(t *testing.T) { // P3
	for _, k := range kinds() {
		for _, b := range [][]byte{nil, {}} {
			mustRead(t, k, b, 0, 0, 0, api.ErrShort)
			mustRead(t, k, b, 1, 0, 0, api.ErrArg)
			mustRead(t, k, b, -1, 0, 0, api.ErrArg)
		}
	}
}

func TestReadWithinLength(t *testing.T) { // P2.1, P5: bytes behind the length are none
	whole := []byte{1, 2, 3, 4, 5, 6}
	for _, k := range kinds() {
		mustRead(t, k, whole[:k.size-1], 0, 0, k.size-1, api.ErrShort)
		mustRead(t, k, whole[:1], 2, 0, 0, api.ErrArg)
	}
}

func TestReadLeavesBytes(t *testing.T) { // P4
	b := []byte{0x80, 1, 0xff, 2, 3}
	was := bytes.Clone(b)
	for _, k := range kinds() {
		k.get(b, 0)
		k.get(b, 1)
		k.get(b, 4)
	}
	if !bytes.Equal(b, was) {
		t.Errorf("bytes became % x, want % x", b, was)
	}
}

func TestPut(t *testing.T) { // P2.1
	k := kinds()
	mustPut(t, k[0], 0xfedc, "\xfe\xdc")
	mustPut(t, k[1], 0xfedcba, "\xfe\xdc\xba")
	mustPut(t, k[2], 0x7edcba98, "\x7e\xdc\xba\x98")
	mustPut(t, k[3], 0xfedcba98, "\xfe\xdc\xba\x98")
	mustPut(t, k[0], 0, "\x00\x00")
	mustPut(t, k[1], 0, "\x00\x00\x00")
	mustPut(t, k[2], 0, "\x00\x00\x00\x00")
	mustPut(t, k[3], 0, "\x00\x00\x00\x00")
	mustPut(t, k[0], 1<<16-1, "\xff\xff")
	mustPut(t, k[1], 1<<24-1, "\xff\xff\xff")
	mustPut(t, k[2], 1<<31-1, "\x7f\xff\xff\xff")
	mustPut(t, k[3], 1<<31, "\x80\x00\x00\x00")
	mustPut(t, k[3], 1<<32-1, "\xff\xff\xff\xff")
}

func TestPutBounds(t *testing.T) { // P2.1, P2, P6
	for _, k := range kinds()[:3] {
		wrong := []int{math.MinInt, math.MinInt32, -k.most - 1, -1, k.most + 1, k.most + 2, 1 << 32, 1<<32 + 1, 1 << 62, math.MaxInt}
		for _, n := range wrong {
			if b, e := k.put(n); len(b) != 0 || e != api.ErrArg {
				t.Errorf("Put%s(%d) = % x, %d, want none, ErrArg", k.name, n, b, e)
			}
		}
	}
}

func TestPutNewMemory(t *testing.T) { // P4
	for _, k := range kinds() {
		one, _ := k.put(7)
		for i := range one {
			one[i] = 255
		}
		_ = append(one, 255)
		mustPut(t, k, 7, "\x00\x00\x00\x07"[4-k.size:])
	}
}

// numbers are those around each power of two that a kind has.
func numbers(k kind) []int {
	all := []int{0x123456 & k.most, k.most / 3}
	for bit := 1; bit <= k.most; bit <<= 1 {
		all = append(all, bit-1, bit, min(bit+1, k.most))
	}
	return append(all, k.most)
}

func TestPutReadBack(t *testing.T) { // P2.2
	for _, k := range kinds() {
		for _, n := range numbers(k) {
			b, e := k.put(n)
			if e != api.OK || len(b) != k.size {
				t.Fatalf("Put%s(%d) = % x, %d", k.name, n, b, e)
			}
			for _, around := range []string{"", "\x00", "\xff", "\x80\x7f", "abcde"} {
				all := around + string(b) + around
				mustRead(t, k, []byte(all), len(around), n, len(around)+k.size, api.OK)
			}
		}
	}
}

func TestReadPutBack(t *testing.T) { // P2.2
	for _, k := range kinds() {
		for x := range 1 << 12 {
			b := []byte{byte(x >> 9), byte(x * 7), byte(x >> 3), byte(x)}[:k.size]
			n, _, _ := k.get(b, 0)
			mustPut(t, k, n, string(b))
		}
	}
}
