package table_test

import (
	"math"
	"math/rand"
	"strings"
	"testing"

	"aqueduct/api"
	"aqueduct/table"
)

func header(name, value string) api.Header {
	return api.Header{Name: name, Value: value}
}

func made(t *testing.T, most int) *table.Table {
	t.Helper()
	x, e := table.New(most)
	if x == nil || e != api.OK {
		t.Fatalf("New(%d) = %v, %d", most, x, e)
	}
	return x
}

func mustAdd(t *testing.T, x *table.Table, names ...string) {
	t.Helper()
	for _, name := range names {
		if e := x.Add(header(name, "")); e != api.OK {
			t.Errorf("Add(%.40q) = %d", name, e)
		}
	}
}

func mustGet(t *testing.T, x *table.Table, index int, want api.Header, e api.Errno) {
	t.Helper()
	if h, ge := x.Get(index); h != want || ge != e {
		t.Errorf("Get(%d) = %.80v, %d, want %.80v, %d", index, h, ge, want, e)
	}
}

func mustFind(t *testing.T, x *table.Table, name, value string, index int, whole bool) {
	t.Helper()
	for _, secret := range []bool{false, true} {
		if at, ok := x.Find(api.Header{Name: name, Value: value, Secret: secret}); at != index || ok != whole {
			t.Errorf("Find(%q, %q, %t) = %d, %t, want %d, %t", name, value, secret, at, ok, index, whole)
		}
	}
}

// mustBe looks at all that a table of entries without values tells, the newest name first.
func mustBe(t *testing.T, x *table.Table, most int, names ...string) {
	t.Helper()
	bytes := 0
	for i, name := range names {
		mustGet(t, x, 62+i, header(name, ""), api.OK)
		bytes += len(name) + api.Overhead
	}
	mustGet(t, x, 62+len(names), api.Header{}, api.ErrIndex)
	if x.Most() != most || x.Len() != len(names) || x.Bytes() != bytes {
		t.Errorf("Most %d, Len %d, Bytes %d, want %d, %d, %d", x.Most(), x.Len(), x.Bytes(), most, len(names), bytes)
	}
}

// strange are ints that are no index and no size.
func strange() []int {
	return []int{math.MinInt, math.MinInt + 1, -1 << 32, 1 - 1<<32, -62, -1, 1 << 32, 1<<32 + 1, 1 << 62, math.MaxInt - 1, math.MaxInt}
}

// wholeStatic is the static table, index by index.
func wholeStatic() []api.Header {
	return []api.Header{
		{}, // no entry has the index 0
		header(":authority", ""), header(":method", "GET"), header(":method", "POST"), header(":path", "/"),
		header(":path", "/index.html"), header(":scheme", "http"), header(":scheme", "https"),
		header(":status", "200"), header(":status", "204"), header(":status", "206"), header(":status", "304"),
		header(":status", "400"), header(":status", "404"), header(":status", "500"),
		header("accept-charset", ""), header("accept-encoding", "gzip, deflate"), header("accept-language", ""),
		header("accept-ranges", ""), header("accept", ""), header("access-control-allow-origin", ""), header("age", ""),
		header("allow", ""), header("authorization", ""), header("cache-control", ""), header("content-disposition", ""),
		header("content-encoding", ""), header("content-language", ""), header("content-length", ""),
		header("content-location", ""), header("content-range", ""), header("content-type", ""), header("cookie", ""),
		header("date", ""), header("etag", ""), header("expect", ""), header("expires", ""), header("from", ""),
		header("host", ""), header("if-match", ""), header("if-modified-since", ""), header("if-none-match", ""),
		header("if-range", ""), header("if-unmodified-since", ""), header("last-modified", ""), header("link", ""),
		header("location", ""), header("max-forwards", ""), header("proxy-authenticate", ""),
		header("proxy-authorization", ""), header("range", ""), header("referer", ""), header("refresh", ""),
		header("retry-after", ""), header("server", ""), header("set-cookie", ""),
		header("strict-transport-security", ""), header("transfer-encoding", ""), header("user-agent", ""),
		header("vary", ""), header("via", ""), header("www-authenticate", ""),
	}
}

func TestExamples(t *testing.T) { // P5.1, P5.2
	x := made(t, 64)
	x.Add(header("a", "b"))
	if x.Len() != 1 || x.Bytes() != 34 {
		t.Errorf("Len %d, Bytes %d, want 1, 34", x.Len(), x.Bytes())
	}
	x.Add(header("c", "d"))
	mustGet(t, x, 62, header("c", "d"), api.OK)
	mustGet(t, x, 63, api.Header{}, api.ErrIndex)
	mustFind(t, x, "c", "x", 62, false)
	mustFind(t, x, ":method", "GET", 2, true)
	mustFind(t, x, ":method", "PUT", 2, false)
	mustFind(t, x, "a", "b", 0, false)
}

func TestStatic(t *testing.T) { // P5.1, P5.2: the static entries, of Static and of every table
	x := made(t, 1000)
	mustAdd(t, x, "host", "via", "x")
	for index, want := range wholeStatic()[1:] {
		if h, e := table.Static(index + 1); h != want || e != api.OK {
			t.Errorf("Static(%d) = %v, %d, want %v", index+1, h, e, want)
		}
		mustGet(t, x, index+1, want, api.OK)
		mustFind(t, x, want.Name, want.Value, index+1, true)
	}
}

func TestStaticIndex(t *testing.T) { // P5.1, P1, P2, P6
	for _, index := range append(strange(), 0, 62, 63, 1000) {
		if h, e := table.Static(index); h != (api.Header{}) || e != api.ErrIndex {
			t.Errorf("Static(%d) = %v, %d, want none, ErrIndex", index, h, e)
		}
	}
}

func TestSize(t *testing.T) { // P5.1
	for _, c := range []struct {
		name, value string
		size        int
	}{{"", "", 32}, {"a", "", 33}, {"", "bc", 34}, {"abc", "defg", 39}, {"é", "\x00\xff", 36}, {strings.Repeat("a", 1<<20), strings.Repeat("b", 1<<20), 1<<21 + 32}} {
		for _, secret := range []bool{false, true} {
			if n := table.Size(api.Header{Name: c.name, Value: c.value, Secret: secret}); n != c.size {
				t.Errorf("Size(%.20q, %.20q) = %d, want %d", c.name, c.value, n, c.size)
			}
		}
	}
}

func TestNew(t *testing.T) { // P5.1, P1, P2, P6
	for _, most := range []int{0, 1, 31, 32, 4096, api.MaxTable - 1, api.MaxTable} {
		mustBe(t, made(t, most), most)
	}
	for _, most := range append(strange(), api.MaxTable+1) {
		if x, e := table.New(most); x != nil || e != api.ErrArg {
			t.Errorf("New(%d) = %v, %d, want nil, ErrArg", most, x, e)
		}
	}
}

func TestAdd(t *testing.T) { // P5.1, P5.4: the oldest fall, and no more of them than must
	x := made(t, 100) // 3 of 33 bytes, one left over
	mustAdd(t, x, "a", "b", "c")
	mustBe(t, x, 100, "c", "b", "a")
	mustAdd(t, x, "d")
	mustBe(t, x, 100, "d", "c", "b")
	mustAdd(t, x, "ee") // 34 have room just so
	mustBe(t, x, 100, "ee", "d", "c")
	mustAdd(t, x, "fff")
	mustBe(t, x, 100, "fff", "ee")
	long := strings.Repeat("g", 100-32-34)
	mustAdd(t, x, "hh", long)
	mustBe(t, x, 100, long, "hh")
	mustAdd(t, x, "")
	mustBe(t, x, 100, "", long)
	mustAdd(t, x, "")
	mustBe(t, x, 100, "", "")
	mustAdd(t, x, "", "")
	mustBe(t, x, 100, "", "", "")
}

func TestAddSame(t *testing.T) { // P5.1: a second one of the same texts is an entry of its own
	x := made(t, 1000)
	mustAdd(t, x, "a", "a", "via")
	mustBe(t, x, 1000, "via", "a", "a")
}

func TestAddLarge(t *testing.T) { // P5.1: exactly as large as may be goes in, one more empties the table
	for _, most := range []int{32, 33, 64, 100, 4096, api.MaxTable} {
		x := made(t, most)
		mustAdd(t, x, "", strings.Repeat("a", most-32))
		mustBe(t, x, most, strings.Repeat("a", most-32))
		mustAdd(t, x, strings.Repeat("b", most-31))
		mustBe(t, x, most)
		mustAdd(t, x, "")
		if e := x.Add(header("n", strings.Repeat("v", most-32))); e != api.OK {
			t.Errorf("Add of %d into %d: %d", most+1, most, e)
		}
		mustBe(t, x, most)
		mustAdd(t, x, "", strings.Repeat("c", 1<<20))
		mustBe(t, x, most)
		mustAdd(t, x, "")
		mustBe(t, x, most, "")
	}
	for most := range 32 {
		x := made(t, most)
		mustAdd(t, x, "", "a")
		mustBe(t, x, most)
	}
}

func TestMany(t *testing.T) { // P5.1: as many as a table can ever have
	x := made(t, api.MaxTable)
	for i := range 3000 {
		mustAdd(t, x, strings.Repeat("a", i%2))
	}
	if x.Len() != 2016 || x.Bytes() != 1008*(32+33) { // 16 bytes are left, for which no half pair has room
		t.Errorf("Len %d, Bytes %d, want 2016, %d", x.Len(), x.Bytes(), 1008*(32+33))
	}
	x = made(t, api.MaxTable)
	for range 2049 {
		mustAdd(t, x, "")
	}
	if x.Len() != 2048 || x.Bytes() != api.MaxTable {
		t.Errorf("Len %d, Bytes %d, want 2048, %d", x.Len(), x.Bytes(), api.MaxTable)
	}
	mustGet(t, x, 61+2048, api.Header{}, api.OK)
	mustGet(t, x, 61+2049, api.Header{}, api.ErrIndex)
}

func TestSecret(t *testing.T) { // P5.1, P5.2: no entry is secret, and what is asked for may be
	x := made(t, 1000)
	x.Add(api.Header{Name: "a", Value: "b", Secret: true})
	mustGet(t, x, 62, header("a", "b"), api.OK)
	mustFind(t, x, "a", "b", 62, true)
}

func TestGetIndex(t *testing.T) { // P5.2, P1, P2, P6
	empty, some := made(t, 0), made(t, 1000)
	mustAdd(t, some, "a", "b")
	for _, index := range append(strange(), 0, 64, 65, 1000) {
		mustGet(t, empty, index, api.Header{}, api.ErrIndex)
		mustGet(t, some, index, api.Header{}, api.ErrIndex)
	}
	mustGet(t, empty, 61, header("www-authenticate", ""), api.OK)
	mustGet(t, empty, 62, api.Header{}, api.ErrIndex)
	mustGet(t, some, 61, header("www-authenticate", ""), api.OK)
	mustGet(t, some, 62, header("b", ""), api.OK)
	mustGet(t, some, 63, header("a", ""), api.OK)
}

func TestFind(t *testing.T) { // P5.2: the least index of all, and whole ones ahead of names
	x := made(t, 1000)
	for _, h := range []api.Header{header("a", "1"), header("a", "2"), header("a", "1"), header("b", ""), header(":method", "PUT"), header(":method", "GET"), header("host", "x"), header("host", "")} {
		x.Add(h)
	}
	mustFind(t, x, "a", "1", 67, true) // not 69, the older one
	mustFind(t, x, "a", "2", 68, true)
	mustFind(t, x, "a", "3", 67, false)
	mustFind(t, x, "b", "", 66, true)
	mustFind(t, x, "b", "1", 66, false)
	mustFind(t, x, ":method", "PUT", 65, true) // behind a static one of its name
	mustFind(t, x, ":method", "GET", 2, true)  // though 64 is the same
	mustFind(t, x, ":method", "POST", 3, true)
	mustFind(t, x, ":method", "", 2, false)
	mustFind(t, x, "host", "", 38, true)
	mustFind(t, x, "host", "x", 63, true)
	mustFind(t, x, "host", "y", 38, false)
	mustFind(t, x, ":status", "500", 14, true)
	mustFind(t, x, ":status", "501", 8, false)
	mustFind(t, x, "accept-encoding", "gzip, deflate", 16, true)
	mustFind(t, x, "accept-encoding", "gzip", 16, false)
}

func TestFindNone(t *testing.T) { // P5.2: names are compared byte by byte, and pieces of the table are none
	for _, x := range []*table.Table{made(t, 0), made(t, 1000)} {
		x.Add(header("bb", "c"))
		for _, name := range []string{"", "b", "B", "c", "bbc", ";", "=", "=GET", "Host", "HOST", "hos", "host;", "host ", "method", "GET", ":method=GET", ":authority;", "gzip", "\xff", "é"} {
			mustFind(t, x, name, "", 0, false)
			mustFind(t, x, name, "GET", 0, false)
		}
	}
	x := made(t, 32)
	x.Add(header("", ""))
	mustFind(t, x, "", "", 62, true)
	mustFind(t, x, "", "a", 62, false)
}

func TestResize(t *testing.T) { // P5.1, P5.4
	x := made(t, 200)
	mustAdd(t, x, "a", "bb", "ccc", "dddd")
	resize := func(most int, names ...string) {
		t.Helper()
		if e := x.Resize(most); e != api.OK {
			t.Errorf("Resize(%d) = %d", most, e)
		}
		mustBe(t, x, most, names...)
	}
	resize(138, "dddd", "ccc", "bb", "a")
	resize(137, "dddd", "ccc", "bb")
	resize(api.MaxTable, "dddd", "ccc", "bb")
	resize(105, "dddd", "ccc", "bb")
	mustAdd(t, x, "")
	mustBe(t, x, 105, "", "dddd", "ccc")
	resize(103, "", "dddd", "ccc")
	resize(40, "")
	resize(32, "")
	resize(31)
	resize(0)
	mustAdd(t, x, "")
	mustBe(t, x, 0)
	resize(66)
	mustAdd(t, x, "e", "f", "g")
	mustBe(t, x, 66, "g", "f")
	resize(0)
	resize(api.MaxTable)
}

func TestResizeArguments(t *testing.T) { // P5.1, P1, P2, P6: nothing has changed
	x := made(t, 100)
	mustAdd(t, x, "a", "b")
	for _, most := range append(strange(), api.MaxTable+1) {
		if e := x.Resize(most); e != api.ErrArg {
			t.Errorf("Resize(%d) = %d, want ErrArg", most, e)
		}
		mustBe(t, x, 100, "b", "a")
	}
}

func TestZero(t *testing.T) { // P5.3, P1
	for _, x := range []*table.Table{nil, {}, new(table.Table)} {
		for _, n := range append(strange(), 0, 1, 61, 62, 100, api.MaxTable+1) {
			if e := x.Resize(n); e != api.ErrZero {
				t.Errorf("Resize(%d) = %d, want ErrZero", n, e)
			}
			mustGet(t, x, n, api.Header{}, api.ErrZero)
		}
		for _, h := range []api.Header{{}, header("a", "b"), header(":method", "GET")} {
			if e := x.Add(h); e != api.ErrZero {
				t.Errorf("Add(%v) = %d, want ErrZero", h, e)
			}
			mustFind(t, x, h.Name, h.Value, 0, false)
		}
		if x.Most() != 0 || x.Bytes() != 0 || x.Len() != 0 {
			t.Errorf("Most %d, Bytes %d, Len %d, want 0", x.Most(), x.Bytes(), x.Len())
		}
	}
}

func TestCopied(t *testing.T) { // P1: a table that was copied shares entries with another one, and still does not panic
	x := made(t, 200)
	mustAdd(t, x, "a", "b", "c")
	y := *x
	mustAdd(t, x, "dddddddddddddddddddddd", "e", "f", "g", "h")
	mustAdd(t, &y, "i", strings.Repeat("j", 150))
	y.Resize(10)
	for index := range 80 {
		x.Get(index)
		y.Get(index)
	}
	y.Find(header("a", ""))
}

func TestApart(t *testing.T) { // P5: tables know nothing of each other
	x, y := made(t, 100), made(t, 100)
	mustAdd(t, x, "a")
	mustAdd(t, y, "b", "c")
	x.Resize(50)
	mustBe(t, x, 50, "a")
	mustBe(t, y, 100, "c", "b")
}

// model is a table as the words tell it: the newest first.
type model struct {
	most int
	all  []api.Header
}

func (m *model) bytes() int {
	sum := 0
	for _, h := range m.all {
		sum += len(h.Name) + len(h.Value) + 32
	}
	return sum
}

func (m *model) fall() {
	for m.bytes() > m.most {
		m.all = m.all[:len(m.all)-1]
	}
}

func (m *model) find(h api.Header) (int, bool) {
	named := 0
	for i, x := range append(wholeStatic(), m.all...) {
		if i > 0 && x.Name == h.Name && x.Value == h.Value {
			return i, true
		}
		if i > 0 && x.Name == h.Name && named == 0 {
			named = i
		}
	}
	return named, false
}

func TestAgainstModel(t *testing.T) { // P5.1, P5.2, P5.4
	names := []string{"a", "bb", "host", ":status", "x-long-name-of-a-header", ""}
	values := []string{"", "1", "200", "some value", strings.Repeat("v", 200)}
	draw := rand.New(rand.NewSource(5))
	for range 60 {
		m := &model{most: draw.Intn(600)}
		x := made(t, m.most)
		for range 200 {
			h := header(names[draw.Intn(len(names))], values[draw.Intn(len(values))])
			if draw.Intn(12) == 0 {
				m.most = draw.Intn(600)
				x.Resize(m.most)
			} else {
				x.Add(h)
				m.all = append([]api.Header{h}, m.all...)
				if table.Size(h) > m.most {
					m.all = nil
				}
			}
			m.fall()
			if x.Most() != m.most || x.Len() != len(m.all) || x.Bytes() != m.bytes() || x.Bytes() > x.Most() {
				t.Fatalf("Most %d, Len %d, Bytes %d, want %d, %d, %d", x.Most(), x.Len(), x.Bytes(), m.most, len(m.all), m.bytes())
			}
			for i, want := range m.all {
				mustGet(t, x, 62+i, want, api.OK)
			}
			index, whole := m.find(h)
			mustFind(t, x, h.Name, h.Value, index, whole)
		}
	}
}
