package rewrite_test

import (
	"math"
	"math/rand"
	"slices"
	"strconv"
	"strings"
	"testing"

	"aqueduct/api"
	"aqueduct/message"
	"aqueduct/rewrite"
)

// list is one of names and values, in turn. A name that ends with "!" is a secret header's.
func list(texts ...string) []api.Header {
	var l []api.Header
	for i := 0; i+1 < len(texts); i += 2 {
		name, secret := strings.CutSuffix(texts[i], "!")
		l = append(l, api.Header{Name: name, Value: texts[i+1], Secret: secret})
	}
	return l
}

// with is l with further headers behind it, in new memory.
func with(l []api.Header, texts ...string) []api.Header {
	return append(slices.Clone(l), list(texts...)...)
}

// get is a request, tunnel one by CONNECT, upgraded one by CONNECT with a protocol, and fine a response.
func get() []api.Header    { return list(":method", "GET", ":scheme", "https", ":path", "/") }
func tunnel() []api.Header { return list(":method", "CONNECT", ":authority", "a:1") }
func upgraded() []api.Header {
	return list(":method", "CONNECT", ":scheme", "https", ":authority", "a", ":path", "/", ":protocol", "websocket")
}
func fine() []api.Header { return list(":status", "200") }

// told is a list as it is told, if an answer is wrong: its beginning.
func told(l []api.Header) string {
	text := strconv.Itoa(len(l)) + ": "
	for _, h := range l[:min(len(l), 12)] {
		text += strconv.Quote(h.Name)
		if h.Secret {
			text += "!"
		}
		text += " " + strconv.Quote(h.Value[:min(len(h.Value), 40)]) + ", "
	}
	return text
}

// mustBe asks for an answer, and for none beside an error.
func mustBe(t *testing.T, what string, l, got []api.Header, e api.Errno, want []api.Header, wantErr api.Errno) {
	t.Helper()
	if e != wantErr || !slices.Equal(got, want) {
		t.Errorf("%s(%s) = %s%d, want %s%d", what, told(l), told(got), e, told(want), wantErr)
	}
}

func mustRequest(t *testing.T, l []api.Header, name string, want []api.Header) {
	t.Helper()
	got, e := rewrite.Request(l, name)
	mustBe(t, "Request", l, got, e, want, api.OK)
}

func mustResponse(t *testing.T, l []api.Header, name string, want []api.Header) {
	t.Helper()
	got, e := rewrite.Response(l, name)
	mustBe(t, "Response", l, got, e, want, api.OK)
}

func mustTrailers(t *testing.T, l []api.Header) {
	t.Helper()
	got, e := rewrite.Trailers(l)
	mustBe(t, "Trailers", l, got, e, l, api.OK)
}

func mustRefuseRequest(t *testing.T, l []api.Header, name string, want api.Errno) {
	t.Helper()
	got, e := rewrite.Request(l, name)
	mustBe(t, "Request", l, got, e, nil, want)
}

func mustRefuseResponse(t *testing.T, l []api.Header, name string, want api.Errno) {
	t.Helper()
	got, e := rewrite.Response(l, name)
	mustBe(t, "Response", l, got, e, nil, want)
}

// P14.1: the examples of the chapter.
func TestExamples(t *testing.T) {
	l := list(":method", "GET", ":path", "/", ":scheme", "https", "host", "a", "cookie", "a=1", "x", "y", "cookie", "b=2")
	mustRequest(t, l, "p", with(get(), "host", "a", "cookie!", "a=1; b=2", "x", "y", "via", "2 p"))
	mustBe(t, "Plain", nil, rewrite.Plain(502), api.OK, list(":status", "502"), api.OK)
}

// orders calls try with l in all its orders.
func orders(l []api.Header, at int, try func([]api.Header)) {
	if at == len(l) {
		try(slices.Clone(l))
		return
	}
	for i := at; i < len(l); i++ {
		l[at], l[i] = l[i], l[at]
		orders(l, at+1, try)
		l[at], l[i] = l[i], l[at]
	}
}

// P14.1: the pseudo headers that are there come first, in one order, whichever they came in, and stay as they were.
func TestPseudoHeadersInOrder(t *testing.T) {
	for _, want := range [][]api.Header{
		get(),
		tunnel(),
		upgraded(),
		list(":method", "GET", ":scheme", "https", ":authority", "a", ":path", "/"),
		list(":method", "GET", ":scheme", "https", ":authority", "", ":path", "/"),
		list(":method", "CONNECT", ":scheme", "https", ":authority", "", ":path", "/", ":protocol", ""),
		list(":method!", "GET", ":scheme", "https", ":path!", "/"),
		list(":method!", "CONNECT", ":scheme!", "https", ":authority!", "a", ":path!", "/", ":protocol!", "websocket"),
	} {
		orders(slices.Clone(want), 0, func(l []api.Header) {
			mustRequest(t, l, "p", with(want, "via", "2 p"))
			mustRequest(t, with(l, "b", "1", "a", "2"), "p", with(want, "b", "1", "a", "2", "via", "2 p"))
		})
	}
}

// P14.1: host is left out, if there is :authority, an empty one too; all of them, wherever they stand.
func TestHost(t *testing.T) {
	for _, authority := range []string{"b", "", "a"} {
		l := with(get(), ":authority", authority, "host", "a", "x", "y", "host!", "a", "hosts", "z", "host", "")
		want := list(":method", "GET", ":scheme", "https", ":authority", authority, ":path", "/", "x", "y", "hosts", "z", "via", "2 p")
		mustRequest(t, l, "p", want)
	}
	for _, l := range [][]api.Header{tunnel(), upgraded()} {
		mustRequest(t, with(l, "host", "a"), "p", with(l, "via", "2 p"))
	}
	l := with(get(), "host", "a", "x", "y", "host!", "a", "host", "", "authority", "b")
	mustRequest(t, l, "p", with(l, "via", "2 p"))
	mustResponse(t, with(fine(), "host", "a"), "p", with(fine(), "host", "a", "via", "2 p"))
}

// P14.1: all cookies of a request are one, where the first one stands; empty values are not joined, but the header stays.
func TestCookies(t *testing.T) {
	for _, c := range []struct{ l, want []string }{
		{[]string{"cookie", "a=1"}, []string{"cookie!", "a=1"}},
		{[]string{"cookie!", "a=1"}, []string{"cookie!", "a=1"}},
		{[]string{"cookie", ""}, []string{"cookie!", ""}},
		{[]string{"cookie", "", "x", "y", "cookie", ""}, []string{"cookie!", "", "x", "y"}},
		{[]string{"cookie", "a", "cookie", "b", "cookie", "c"}, []string{"cookie!", "a; b; c"}},
		{[]string{"cookie", "a", "cookie", "a"}, []string{"cookie!", "a; a"}},
		{[]string{"cookie", "", "cookie", "b"}, []string{"cookie!", "b"}},
		{[]string{"cookie", "", "x", "y", "cookie", "b", "z", "", "cookie", "", "cookie", "c"}, []string{"cookie!", "b; c", "x", "y", "z", ""}},
		{[]string{"x", "y", "cookie", "a", "cookie", ""}, []string{"x", "y", "cookie!", "a"}},
		{[]string{"x", "1", "cookie", "a; b", "x", "2", "cookie", "c; ;", "x", "3"}, []string{"x", "1", "cookie!", "a; b; c; ;", "x", "2", "x", "3"}},
		{[]string{"cookie", ";", "cookie", ";"}, []string{"cookie!", ";; ;"}},
		{[]string{"cookies", "a", "cookie", "b", "cookie2", "c"}, []string{"cookies", "a", "cookie!", "b", "cookie2", "c"}},
	} {
		mustRequest(t, with(get(), c.l...), "p", with(with(get(), c.want...), "via", "2 p"))
		mustRequest(t, with(tunnel(), c.l...), "p", with(with(tunnel(), c.want...), "via", "2 p"))
		l := with(fine(), c.l...) // of a response they stay as they are
		mustResponse(t, l, "p", with(l, "via", "2 p"))
	}
}

// P14.1: Secret is set of authorization and cookie in requests, of set-cookie in responses; of others it is left as it was.
func TestSecret(t *testing.T) {
	l := list("authorization", "s", "x", "1", "authorization!", "", "x!", "2", "set-cookie", "c", "proxy-authorization", "d", "set-cookie!", "e", "authorizations", "f")
	want := list("authorization!", "s", "x", "1", "authorization!", "", "x!", "2", "set-cookie", "c", "proxy-authorization", "d", "set-cookie!", "e", "authorizations", "f", "via", "2 p")
	mustRequest(t, append(get(), l...), "p", append(get(), want...))
	want = list("authorization", "s", "x", "1", "authorization!", "", "x!", "2", "set-cookie!", "c", "proxy-authorization", "d", "set-cookie!", "e", "authorizations", "f", "via", "2 p")
	mustResponse(t, append(fine(), l...), "p", append(fine(), want...))
	mustResponse(t, list(":status!", "200"), "p", list(":status!", "200", "via", "2 p"))
}

// P14.1: via is last, one, and not secret: the values of all, empty ones too, with "2 " and the name behind them.
func TestVia(t *testing.T) {
	for _, c := range []struct {
		l, want []string
		via     string
	}{
		{nil, nil, "2 p"},
		{[]string{"via", "1 q"}, nil, "1 q, 2 p"},
		{[]string{"via!", "1 q"}, nil, "1 q, 2 p"},
		{[]string{"via", "1 q", "x", "y", "via", "2 p"}, []string{"x", "y"}, "1 q, 2 p, 2 p"},
		{[]string{"x", "1", "via", "a, b", "x", "2", "via", "c", "via", "d", "vias", "e"}, []string{"x", "1", "x", "2", "vias", "e"}, "a, b, c, d, 2 p"},
		{[]string{"via", ""}, nil, ", 2 p"},
		{[]string{"via", "a", "via", "", "via", "b"}, nil, "a, , b, 2 p"},
	} {
		mustRequest(t, with(get(), c.l...), "p", with(with(get(), c.want...), "via", c.via))
		mustRequest(t, with(upgraded(), c.l...), "p", with(with(upgraded(), c.want...), "via", c.via))
		mustResponse(t, with(fine(), c.l...), "p", with(with(fine(), c.want...), "via", c.via))
	}
}

// P14.1: the name is told as it is.
func TestNameInVia(t *testing.T) {
	for _, name := range []string{"aqueduct", "p", "", "a b", "a, 2 b", "\xFF", "é"} {
		mustRequest(t, get(), name, with(get(), "via", "2 "+name))
		mustResponse(t, with(fine(), "via", "1 q"), name, with(fine(), "via", "1 q, 2 "+name))
	}
}

// text is one of n bytes.
func text(n int) string {
	return strings.Repeat("a", n)
}

// P14.1: ErrLong, if a joined value has more than MaxText bytes: cookies, of requests alone.
func TestLongCookies(t *testing.T) {
	most := api.MaxText
	for _, c := range []struct {
		values []string
		size   int
	}{
		{[]string{text(most)}, most},
		{[]string{text(most + 1)}, most + 1},
		{[]string{"", text(most), ""}, most},
		{[]string{text(most), "", "b"}, most + 3},
		{[]string{text(most - 1), "b"}, most + 2},
		{[]string{text(most - 2), "b"}, most + 1},
		{[]string{text(most - 3), "b"}, most},
		{[]string{"b", text(most - 3)}, most},
		{[]string{"b", text(most - 2)}, most + 1},
		{[]string{"b", "c", text(most - 6)}, most},
		{[]string{"b", "c", text(most - 5)}, most + 1},
		{[]string{text(most), text(most)}, 2*most + 2},
		{slices.Repeat([]string{"bc"}, most/4), most - 2},
		{append(slices.Repeat([]string{"bc"}, most/4-1), "bcde"), most},
		{append(slices.Repeat([]string{"bc"}, most/4-1), "bcdef"), most + 1},
		{slices.Repeat([]string{"bc"}, most/4+1), most + 2},
		{slices.Repeat([]string{""}, most+1), 0},
		{slices.Repeat([]string{text(1 << 16)}, 1<<8), 1<<24 + 510},
	} {
		l := get()
		for _, v := range c.values {
			l = append(l, api.Header{Name: "cookie", Value: v})
		}
		if c.size > most {
			mustRefuseRequest(t, l, "p", api.ErrLong)
			continue
		}
		got, e := rewrite.Request(l, "p")
		if e != api.OK || len(got) != 5 || len(got[3].Value) != c.size {
			t.Errorf("Request(%s) = %s%d", told(l), told(got), e)
		}
		filled := slices.DeleteFunc(slices.Clone(c.values), func(s string) bool { return s == "" })
		mustRequest(t, l, "p", with(get(), "cookie!", strings.Join(filled, "; "), "via", "2 p"))
	}
	l := with(fine(), "cookie", text(most), "cookie", text(most+1), "set-cookie!", text(most+1))
	mustResponse(t, l, "p", with(l, "via", "2 p"))
}

// P14.1: ErrLong, if via has more than MaxText bytes, by the name or by what was there.
func TestLongVia(t *testing.T) {
	most := api.MaxText
	for _, c := range []struct {
		name   string
		values []string
		size   int
	}{
		{text(most - 2), nil, most},
		{text(most - 1), nil, most + 1},
		{text(most - 5), []string{"b"}, most},
		{text(most - 4), []string{"b"}, most + 1},
		{"", []string{text(most - 4)}, most},
		{"", []string{text(most - 3)}, most + 1},
		{"p", []string{text(most - 5)}, most},
		{"p", []string{text(most - 4)}, most + 1},
		{"p", []string{text(most)}, most + 5},
		{"p", []string{text(most + 1)}, most + 6},
		{"p", slices.Repeat([]string{""}, most/2), 2*(most/2) + 3},
		{"p", slices.Repeat([]string{""}, most/2-2), 2*(most/2-2) + 3},
		{"pp", slices.Repeat([]string{""}, most/2-2), most},
		{"ppp", slices.Repeat([]string{""}, most/2-2), most + 1},
		{"p", slices.Repeat([]string{text(1 << 16)}, 1<<8), 1<<24 + 515},
	} {
		request, response := get(), fine()
		for _, v := range c.values {
			request = append(request, api.Header{Name: "via", Value: v})
			response = append(response, api.Header{Name: "via", Value: v})
		}
		if c.size > most {
			mustRefuseRequest(t, request, c.name, api.ErrLong)
			mustRefuseResponse(t, response, c.name, api.ErrLong)
			continue
		}
		value := strings.Join(append(slices.Clone(c.values), "2 "+c.name), ", ")
		if len(value) != c.size {
			t.Errorf("%d bytes, want %d", len(value), c.size)
		}
		mustRequest(t, request, c.name, with(get(), "via", value))
		mustResponse(t, response, c.name, with(fine(), "via", value))
	}
}

// P14.1: values that are not joined may have any length.
func TestLongValuesThatStay(t *testing.T) {
	long := text(api.MaxText + 1)
	l := list(":method", long, ":scheme", long, ":path", long, "host", long, "x", long, "authorization!", long)
	mustRequest(t, l, "p", with(l, "via", "2 p"))
	l = with(fine(), "x", long, "set-cookie!", long)
	mustResponse(t, l, "p", with(l, "via", "2 p"))
	mustTrailers(t, list("via", long, "cookie", long))
	var many []api.Header
	for i := range 3 * api.MaxHeaders {
		many = append(many, api.Header{Name: "x", Value: strconv.Itoa(i)})
	}
	mustRequest(t, append(get(), many...), "p", with(append(get(), many...), "via", "2 p"))
	mustTrailers(t, many)
}

// P14.1: the errors of message, each as it tells it, ahead of ErrLong.
func TestErrorsOfMessage(t *testing.T) {
	for _, long := range [][]string{nil, {"via", text(api.MaxText)}, {"cookie", text(api.MaxText), "cookie", "b", "via", text(api.MaxText)}} {
		for _, c := range []struct {
			name, value string
			want        api.Errno
		}{
			{"Host", "a", api.ErrName}, {"", "a", api.ErrName}, {"::", "a", api.ErrName}, {"Cookie", "a", api.ErrName},
			{"x", " a", api.ErrValue}, {"cookie", "a\n", api.ErrValue}, {"via", "a ", api.ErrValue}, {"host", "\x00", api.ErrValue},
			{":path", "/", api.ErrPseudo}, {":status", "200", api.ErrPseudo}, {":via", "a", api.ErrPseudo},
			{"connection", "close", api.ErrConn}, {"te", "gzip", api.ErrConn}, {"upgrade", "", api.ErrConn},
		} {
			l := list(append(slices.Clone(long), c.name, c.value)...)
			mustRefuseRequest(t, append(get(), l...), "p", c.want)
			mustRefuseRequest(t, append(tunnel(), l...), "p", c.want)
			mustRefuseResponse(t, append(fine(), l...), "p", c.want)
			got, e := rewrite.Trailers(l)
			mustBe(t, "Trailers", l, got, e, nil, c.want)
		}
		for _, l := range [][]api.Header{nil, {}, list("x", "y"), fine(), list(":method", "GET"), list(":method", "CONNECT"), list(":method", "", ":scheme", "https", ":path", "/"), with(get(), ":protocol", "p")} {
			mustRefuseRequest(t, with(l, long...), "p", api.ErrPseudo)
		}
		for _, l := range [][]api.Header{nil, {}, list("x", "y"), get(), list(":status", ""), list(":status", "099"), list(":status", "600"), list(":status", "20"), list(":status", "2000")} {
			mustRefuseResponse(t, with(l, long...), "p", api.ErrPseudo)
		}
		for _, length := range []string{"", "x", "-1", "1234567890"} {
			mustRefuseRequest(t, with(with(get(), long...), "content-length", length), "p", api.ErrLength)
			mustRefuseResponse(t, with(with(fine(), long...), "content-length", length), "p", api.ErrLength)
		}
	}
	mustRefuseRequest(t, list(":method", "GET"), text(api.MaxText), api.ErrPseudo)
	mustRefuseResponse(t, nil, text(api.MaxText), api.ErrPseudo)
}

// P14.1: a response has its status, the others in their order, and via.
func TestResponse(t *testing.T) {
	l := list(":status", "100", "b", "1", "a", "2", "te", "trailers", "b", "1", "content-length", "5", "content-length", "5")
	mustResponse(t, l, "p", with(l, "via", "2 p"))
	l = list(":status", "599", "via", "1 q", "set-cookie", "a", "x", "y", "set-cookie", "b", "set-cookie", "")
	mustResponse(t, l, "p", list(":status", "599", "set-cookie!", "a", "x", "y", "set-cookie!", "b", "set-cookie!", "", "via", "1 q, 2 p"))
}

// P14.1: trailers are as they were, whatever requests and responses change.
func TestTrailers(t *testing.T) {
	for _, l := range [][]api.Header{
		nil, {}, list("x", "y"), list("x!", "y"),
		list("via", "1 q", "cookie", "a", "cookie", "b", "cookie", "", "host", "a", "authorization", "s", "set-cookie", "c", "via!", "d", "x", "y"),
		list("content-length", "x", "content-length", "5"),
	} {
		mustTrailers(t, l)
	}
}

// P14.1: Plain has three digits, modulo 1000, at the ends of numbers too.
func TestPlain(t *testing.T) {
	for status := range 4000 {
		digits := strconv.Itoa(status % 1000)
		want := list(":status", strings.Repeat("0", 3-len(digits))+digits)
		mustBe(t, "Plain", nil, rewrite.Plain(status), api.OK, want, api.OK)
		mustBe(t, "Plain", nil, rewrite.Plain(status-4000), api.OK, want, api.OK)
	}
	for _, c := range []struct {
		status int
		want   string
	}{{math.MaxInt64, "807"}, {math.MinInt64, "192"}, {math.MaxInt32, "647"}, {math.MinInt32, "352"}, {-1, "999"}, {-1000, "000"}, {1502, "502"}} {
		mustBe(t, "Plain", nil, rewrite.Plain(c.status), api.OK, list(":status", c.want), api.OK)
	}
	for status := 100; status < 600; status++ {
		if n, e := message.Response(rewrite.Plain(status)); n != status || e != api.OK {
			t.Errorf("Response(Plain(%d)) = %d, %d", status, n, e)
		}
	}
}

// P14.2: those five methods, just as they are written, without a protocol, an empty one too.
func TestRetry(t *testing.T) {
	for _, c := range []struct {
		l    []api.Header
		want bool
	}{
		{nil, false}, {[]api.Header{}, false}, {list("x", "y"), false}, {list("method", "GET"), false}, {list("x", "GET"), false},
		{list(":method", "POST", ":method", "GET"), false}, {list(":method", "GET", ":method", "POST"), true},
		{list("x", "y", ":method", "GET"), true}, {list(":method", "GET", "protocol", "p"), true},
		{get(), true}, {tunnel(), false}, {upgraded(), false}, {with(get(), "x", "y"), true},
		{list(":protocol", "p", ":method", "GET"), false}, {list(":method", "GET", "x", "y", ":protocol", ""), false},
		{list(":method!", "GET"), true},
	} {
		if got := rewrite.Retry(c.l); got != c.want {
			t.Errorf("Retry(%s) = %v", told(c.l), got)
		}
	}
	for _, method := range []string{"GET", "HEAD", "OPTIONS", "PUT", "DELETE"} {
		if !rewrite.Retry(list(":method", method)) || rewrite.Retry(list(":method", method, ":protocol", "p")) || rewrite.Retry(list(":method", method, ":protocol", "")) {
			t.Error(method)
		}
	}
	for _, method := range []string{"", "POST", "CONNECT", "TRACE", "PATCH", "get", "Get", "GET ", " GET", "GETS", "GE", "PUTT", "delete"} {
		if rewrite.Retry(list(":method", method)) {
			t.Errorf("%q", method)
		}
	}
}

// P4: what is handed in is left as it was, the room behind it too, and what is answered is new memory.
func TestListsAreLeft(t *testing.T) {
	for _, c := range []struct {
		pass func([]api.Header) ([]api.Header, api.Errno)
		l    []api.Header
	}{
		{func(l []api.Header) ([]api.Header, api.Errno) { return rewrite.Request(l, "p") }, list(":path", "/", ":method", "GET", ":scheme", "https", "cookie", "a", "via", "b", "authorization", "s", "cookie", "c")},
		{func(l []api.Header) ([]api.Header, api.Errno) { return rewrite.Request(l, "p") }, get()},
		{func(l []api.Header) ([]api.Header, api.Errno) { return rewrite.Response(l, "p") }, with(fine(), "via", "b", "set-cookie", "a", "x", "y")},
		{func(l []api.Header) ([]api.Header, api.Errno) { return rewrite.Response(l, "p") }, fine()},
		{rewrite.Trailers, list("x", "y", "via", "z")},
	} {
		room := append(slices.Clone(c.l), list("behind", "1", "behind", "2", "behind", "3")...)
		was := slices.Clone(room)
		first, _ := c.pass(room[:len(c.l)])
		second, _ := c.pass(room[:len(c.l)])
		if !slices.Equal(first, second) || !slices.Equal(room, was) {
			t.Errorf("%s, then %s; %s", told(first), told(second), told(room))
		}
		want := slices.Clone(second)
		all := first[:cap(first)]
		for i := range all {
			all[i] = api.Header{Name: "other"}
		}
		if !slices.Equal(room, was) || !slices.Equal(second, want) {
			t.Errorf("%s shares memory", told(c.l))
		}
	}
	plain := rewrite.Plain(200)
	plain[0].Value = "x"
	mustBe(t, "Plain", nil, rewrite.Plain(200), api.OK, fine(), api.OK)
}

// plainPass is what a request (or a response) becomes, told as the chapter tells it, header by header.
func plainPass(l []api.Header, name string, request bool) []api.Header {
	var out []api.Header
	for _, pseudo := range []string{":status", ":method", ":scheme", ":authority", ":path", ":protocol"} {
		for _, h := range l {
			if h.Name == pseudo {
				out = append(out, h)
			}
		}
	}
	_, authority := message.Find(l, ":authority")
	cookie, via := -1, ""
	for _, h := range l {
		switch {
		case h.Name[0] == ':' || h.Name == "host" && authority:
		case h.Name == "via":
			via += h.Value + ", "
		case h.Name == "cookie" && request && cookie < 0:
			cookie = len(out)
			out = append(out, api.Header{Name: "cookie", Value: h.Value, Secret: true})
		case h.Name == "cookie" && request && h.Value == "":
		case h.Name == "cookie" && request && out[cookie].Value == "":
			out[cookie].Value = h.Value
		case h.Name == "cookie" && request:
			out[cookie].Value += "; " + h.Value
		default:
			h.Secret = h.Secret || request && h.Name == "authorization" || !request && h.Name == "set-cookie"
			out = append(out, h)
		}
	}
	return append(out, api.Header{Name: "via", Value: via + "2 " + name})
}

// unchanged are the headers of l that are passed on as they were, but for Secret.
func unchanged(l []api.Header, request bool) []api.Header {
	var out []api.Header
	for _, h := range l {
		if h.Name[0] != ':' && h.Name != "host" && h.Name != "via" && (h.Name != "cookie" || !request) {
			out = append(out, api.Header{Name: h.Name, Value: h.Value})
		}
	}
	return out
}

// P14.1, P14.3: random lists beside a plain model: what is passed on is a request (a response) again, and of what is not rewritten all is there, in order.
func TestRandomLists(t *testing.T) {
	rnd := rand.New(rand.NewSource(14))
	names := []string{"host", "cookie", "cookie", "via", "authorization", "set-cookie", "x", "y", "te", "content-length"}
	texts := []string{"", "a", "b=1", "trailers", "5", ", ", "a; b", "7"}
	passed := 0
	for range 100000 {
		request := rnd.Intn(2) == 0
		l := fine()
		if request {
			l = [][]api.Header{get(), tunnel(), upgraded(), with(get(), ":authority", "")}[rnd.Intn(4)]
			rnd.Shuffle(len(l), func(i, j int) { l[i], l[j] = l[j], l[i] })
		}
		for range rnd.Intn(9) {
			l = append(l, api.Header{Name: names[rnd.Intn(len(names))], Value: texts[rnd.Intn(len(texts))]})
		}
		for i := range l {
			l[i].Secret = rnd.Intn(4) == 0
		}
		pass, look := rewrite.Response, func(l []api.Header) api.Errno { _, e := message.Response(l); return e }
		if request {
			pass, look = rewrite.Request, message.Request
		}
		got, e := pass(l, "name")
		if want := look(l); want != api.OK {
			mustBe(t, "pass", l, got, e, nil, want)
			continue
		}
		passed++
		mustBe(t, "pass", l, got, e, plainPass(l, "name", request), api.OK)
		if e := look(got); e != api.OK {
			t.Errorf("what %s becomes is none: %d", told(l), e)
		}
		if !slices.Equal(unchanged(l, request), unchanged(got, request)) {
			t.Errorf("what %s becomes has changed: %s", told(l), told(got))
		}
		again, e := pass(got, "next")
		mustBe(t, "pass", got, again, e, plainPass(got, "next", request), api.OK)
	}
	if passed < 20000 {
		t.Errorf("only %d were passed on", passed)
	}
}
