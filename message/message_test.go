package message_test

import (
	"math/rand"
	"slices"
	"strconv"
	"strings"
	"testing"

	"aqueduct/api"
	"aqueduct/message"
)

// list is one of names and values, in turn.
func list(texts ...string) []api.Header {
	var l []api.Header
	for i := 0; i+1 < len(texts); i += 2 {
		l = append(l, api.Header{Name: texts[i], Value: texts[i+1]})
	}
	return l
}

// with is l with further headers behind it, in new memory.
func with(l []api.Header, texts ...string) []api.Header {
	return append(slices.Clone(l), list(texts...)...)
}

// without is l without the headers of a name.
func without(l []api.Header, name string) []api.Header {
	return slices.DeleteFunc(slices.Clone(l), func(h api.Header) bool { return h.Name == name })
}

// changed is l with another value of the headers of a name.
func changed(l []api.Header, name, value string) []api.Header {
	l = slices.Clone(l)
	for i := range l {
		if l[i].Name == name {
			l[i].Value = value
		}
	}
	return l
}

// get is a request, tunnel one by CONNECT, and upgraded one by CONNECT with a protocol.
func get() []api.Header    { return list(":method", "GET", ":scheme", "https", ":path", "/") }
func tunnel() []api.Header { return list(":method", "CONNECT", ":authority", "a:1") }
func upgraded() []api.Header {
	return list(":method", "CONNECT", ":scheme", "https", ":authority", "a", ":path", "/", ":protocol", "websocket")
}

// told is a list as it is told, if an answer is wrong: its beginning.
func told(l []api.Header) string {
	text := ""
	for _, h := range l[:min(len(l), 8)] {
		text += strconv.Quote(h.Name) + " " + strconv.Quote(h.Value[:min(len(h.Value), 40)]) + ", "
	}
	return text
}

func mustRequest(t *testing.T, l []api.Header, want api.Errno) {
	t.Helper()
	if e := message.Request(l); e != want {
		t.Errorf("Request(%s) = %d, want %d", told(l), e, want)
	}
}

func mustResponse(t *testing.T, l []api.Header, want int, wantErr api.Errno) {
	t.Helper()
	if n, e := message.Response(l); n != want || e != wantErr {
		t.Errorf("Response(%s) = %d, %d, want %d, %d", told(l), n, e, want, wantErr)
	}
}

func mustTrailers(t *testing.T, l []api.Header, want api.Errno) {
	t.Helper()
	if e := message.Trailers(l); e != want {
		t.Errorf("Trailers(%s) = %d, want %d", told(l), e, want)
	}
}

func mustLength(t *testing.T, l []api.Header, want int, there bool, wantErr api.Errno) {
	t.Helper()
	if n, ok, e := message.Length(l); n != want || ok != there || e != wantErr {
		t.Errorf("Length(%s) = %d, %v, %d, want %d, %v, %d", told(l), n, ok, e, want, there, wantErr)
	}
}

// mustAll asks for the same error of a header, wherever it may be behind the pseudo headers of a request and of a response, and of trailers.
func mustAll(t *testing.T, name, value string, want api.Errno) {
	t.Helper()
	for _, more := range [][]string{{name, value}, {"x", "y", name, value}, {name, value, "x", "y"}} {
		mustRequest(t, with(get(), more...), want)
		mustRequest(t, with(tunnel(), more...), want)
		mustRequest(t, with(upgraded(), more...), want)
		status := 204
		if want != api.OK {
			status = 0
		}
		mustResponse(t, with(list(":status", "204"), more...), status, want)
		mustTrailers(t, list(more...), want)
	}
}

// nameBytes are those that the chapter gives a name, written out one by one.
const nameBytes = "abcdefghijklmnopqrstuvwxyz0123456789!#$%&'*+-.^_`|~"

// plainName asks the same of a name, byte by byte.
func plainName(s string) bool {
	for i := range len(s) {
		if strings.IndexByte(nameBytes, s[i]) < 0 {
			return false
		}
	}
	return len(s) > 0
}

// plainValue asks the same of a value, byte by byte.
func plainValue(s string) bool {
	for i := range len(s) {
		edge := i == 0 || i == len(s)-1
		if s[i] == 0 || s[i] == 10 || s[i] == 13 || edge && (s[i] == 32 || s[i] == 9) {
			return false
		}
	}
	return true
}

// P13.1: of all texts of no, one and two bytes, and of every byte within longer ones, Name and Value tell whether they are.
func TestNameAndValueOfAllShortTexts(t *testing.T) {
	ask := func(s string) {
		if message.Name(s) != plainName(s) {
			t.Errorf("Name(%q) = %v", s, message.Name(s))
		}
		if message.Value(s) != plainValue(s) {
			t.Errorf("Value(%q) = %v", s, message.Value(s))
		}
	}
	ask("")
	for a := range 256 {
		for b := range 256 {
			ask(string([]byte{byte(a), byte(b)}))
		}
		c := string([]byte{byte(a)})
		ask(c)
		ask("x" + c + "y")
		ask("xyz" + c)
		ask(c + "xyz")
	}
}

// P13.1: names that are, and texts that only look like ones.
func TestName(t *testing.T) {
	for _, s := range []string{"a", "z", "0", "9", "host", "x-1_~`", nameBytes, strings.Repeat("a", 1<<16)} {
		if !message.Name(s) {
			t.Errorf("Name(%.40q) = false", s)
		}
	}
	for _, s := range []string{"", ":", ":path", "a:", "Host", "hosT", "a b", " a", "a ", "a\x00", "a\tb", "é", "aé", "ａ", "\uFFFD", "a\uFFFD", "a\xFF", "\xC3", "a\"", "(a)", "a,b", "a/b", "a;b", "a<", "a=", "a>", "a?", "a@", "[a]", "a\\", "{a}", "a\x7F", "\u212A", strings.Repeat("a", 1<<16) + "A"} {
		if message.Name(s) {
			t.Errorf("Name(%.40q) = true", s)
		}
	}
}

// P13.1: values that are (empty ones, blanks within, bytes that are no text), and such that are none.
func TestValue(t *testing.T) {
	for _, s := range []string{"", "a", "a b", "a\tb", "é", "\xFF", "\x01", "\x7F", "\x0B", "\x0C", "\u00A0", "\u2028", "\u0085", "\uFFFD", "\xC0\x80", "\xC4\x8A", "ĊčĀ", ":", "a, b; c=\"d\"", strings.Repeat("a", 1<<16)} {
		if !message.Value(s) {
			t.Errorf("Value(%.40q) = false", s)
		}
	}
	for _, s := range []string{" ", "\t", "\x00", "\n", "\r", " a", "a ", "\ta", "a\t", "a\x00", "\x00a", "a\nb", "a\rb", "a\r\n", "a\r\n b", "  ", " \t ", "é\n", "\xFF\x00", "é ", "\xFF\t", strings.Repeat("a", 1<<16) + "\n"} {
		if message.Value(s) {
			t.Errorf("Value(%.40q) = true", s)
		}
	}
}

// P13.1: Find tells the first value of a name, empty or not; names are as they stand, whether they may be or not.
func TestFind(t *testing.T) {
	l := list("a", "1", "b", "", "a", "2", "b", "3", "", "none", ":path", "/", "A", "4")
	for _, c := range []struct {
		name, value string
		there       bool
	}{
		{"a", "1", true}, {"b", "", true}, {"", "none", true}, {":path", "/", true}, {"A", "4", true},
		{"c", "", false}, {"path", "", false}, {"B", "", false}, {"a ", "", false}, {"1", "", false},
	} {
		if v, ok := message.Find(l, c.name); v != c.value || ok != c.there {
			t.Errorf("Find(%q) = %q, %v", c.name, v, ok)
		}
		for _, none := range [][]api.Header{nil, {}} {
			if v, ok := message.Find(none, c.name); v != "" || ok {
				t.Errorf("Find(none, %q) = %q, %v", c.name, v, ok)
			}
		}
	}
}

// P13.1: Length of none, of one, of several that are alike, wherever they stand.
func TestLength(t *testing.T) {
	mustLength(t, nil, 0, false, api.OK)
	mustLength(t, []api.Header{}, 0, false, api.OK)
	mustLength(t, list("x", "5", "Content-Length", "5", "content-length ", "5", ":content-length", "5"), 0, false, api.OK)
	mustLength(t, list("content-length", "5", "content-length", "5"), 5, true, api.OK)
	mustLength(t, list("x", "y", "content-length", "17", "z", "", "content-length", "17", "content-length", "17"), 17, true, api.OK)
	for _, c := range []struct {
		text string
		n    int
	}{{"0", 0}, {"5", 5}, {"9", 9}, {"05", 5}, {"000000000", 0}, {"000000001", 1}, {"123456789", 123456789}, {"999999999", 999999999}, {"100000000", 100000000}} {
		mustLength(t, list("content-length", c.text), c.n, true, api.OK)
	}
}

// P13.1: ErrLength of what is not 1 to 9 digits, whichever of them it is, and of two that are unlike as texts though not as numbers.
func TestLengthRefuses(t *testing.T) {
	for _, text := range []string{"", "1234567890", "0000000000", "0000000005", "99999999999999999999", strings.Repeat("1", 1<<16), "+5", "-5", "-0", " 5", "5 ", "5,5", "5, 5", "0x5", "5_0", "1e3", "5.0", "x", "5x", "x5", "٥", "５", "\x00", "5\n", ":", "/", "²"} {
		mustLength(t, list("content-length", text), 0, false, api.ErrLength)
		mustLength(t, list("content-length", text, "content-length", text), 0, false, api.ErrLength)
		mustLength(t, list("content-length", "5", "content-length", text), 0, false, api.ErrLength)
		mustLength(t, list("content-length", text, "content-length", "5"), 0, false, api.ErrLength)
	}
	mustLength(t, list("content-length", "5", "content-length", "05"), 0, false, api.ErrLength)
	mustLength(t, list("content-length", "05", "content-length", "5"), 0, false, api.ErrLength)
	mustLength(t, list("content-length", "5", "content-length", "6"), 0, false, api.ErrLength)
	mustLength(t, list("content-length", "5", "content-length", "5", "x", "y", "content-length", "6"), 0, false, api.ErrLength)
}

// P13.2: the examples of the chapter.
func TestExamples(t *testing.T) {
	mustRequest(t, get(), api.OK)
	mustRequest(t, list(":method", "GET", ":scheme", "https"), api.ErrPseudo)
	mustRequest(t, with(get(), "Host", "a"), api.ErrName)
	mustRequest(t, with(get(), "connection", "close"), api.ErrConn)
	mustResponse(t, list(":status", "200"), 200, api.OK)
	mustLength(t, list("content-length", "5", "content-length", "5"), 5, true, api.OK)
}

// P13.2: what every kind of list takes: names and values that are, twice or more, and secret ones.
func TestHeadersThatMayBe(t *testing.T) {
	for _, h := range list("x", "y", "host", "a", "x", "", "x", ":method", "te", "trailers", "connections", "close", "keepalive", "1", "x", "a\tb", "x", "\xFF", "content-length", "0", "content-length", "999999999", "status", "200", "method", "", nameBytes, nameBytes) {
		mustAll(t, h.Name, h.Value, api.OK)
	}
	l := with(get(), "x", "1", "x", "1", "te", "trailers", "te", "trailers")
	for i := range l {
		l[i].Secret = true
	}
	mustRequest(t, l, api.OK)
	l[len(l)-1].Value = "gzip"
	mustRequest(t, l, api.ErrConn)
}

// P13.2: ErrName, if a name is neither a name nor ":" and a name.
func TestErrName(t *testing.T) {
	for _, name := range []string{"", ":", "::", "::path", "::method", ":Path", ":a:", "a:", "Host", "a b", " a", "a ", ":a ", ": a", "é", ":é", "a\x00", "a\xFF", "connectioN", "TE"} {
		mustAll(t, name, "y", api.ErrName)
		mustAll(t, name, "\n", api.ErrName) // a name is looked at ahead of its value
	}
}

// P13.2: ErrValue, if a value is none: also of pseudo headers, and ahead of ErrPseudo and ErrConn of the same header.
func TestErrValue(t *testing.T) {
	for _, value := range []string{" ", "\t", "y ", " y", "\ty", "y\t", "y\x00", "y\nz", "y\r", "\xFF\n"} {
		for _, name := range []string{"x", "connection", "te", "upgrade", ":no", ":method", ":path", ":status", "content-length"} {
			mustAll(t, name, value, api.ErrValue)
		}
		for _, name := range []string{":method", ":scheme", ":authority", ":path", ":protocol"} {
			mustRequest(t, changed(upgraded(), name, value), api.ErrValue)
		}
		mustResponse(t, list(":status", value), 0, api.ErrValue)
	}
	mustAll(t, "te", " trailers", api.ErrValue)
}

// P13.2: ErrPseudo of a pseudo header behind another header, of one that may not be there, of one that was there already.
func TestErrPseudoOfOne(t *testing.T) {
	names := []string{":method", ":scheme", ":authority", ":path", ":protocol", ":status", ":no", ":0", ":connection", ":te", ":content-length", ":host"}
	for _, name := range names {
		for _, value := range []string{"", "200", "trailers"} {
			mustTrailers(t, list(name, value), api.ErrPseudo)
			mustTrailers(t, list("x", "y", name, value), api.ErrPseudo)
			mustRequest(t, with(get(), "x", "y", name, value), api.ErrPseudo)
			mustRequest(t, with(list("x", "y"), name, value), api.ErrPseudo)
			mustResponse(t, list(":status", "200", "x", "y", name, value), 0, api.ErrPseudo)
			mustResponse(t, list(":status", "200", name, value), 0, api.ErrPseudo)
			mustResponse(t, list(name, value, ":status", "200", ":status", "200"), 0, api.ErrPseudo)
			mustRequest(t, with(upgraded(), name, value), api.ErrPseudo) // there already, or may not be
		}
	}
	for i, h := range upgraded() {
		mustRequest(t, slices.Insert(upgraded(), i, h), api.ErrPseudo)
		mustRequest(t, slices.Insert(upgraded(), i, api.Header{Name: "x", Value: "y"}), api.ErrPseudo)
		mustRequest(t, slices.Insert(upgraded(), i, api.Header{Name: ":status", Value: "200"}), api.ErrPseudo)
		mustRequest(t, with(upgraded(), h.Name, ""), api.ErrPseudo)
		mustResponse(t, with(list(":status", "200"), h.Name, h.Value), 0, api.ErrPseudo)
		mustResponse(t, list(h.Name, h.Value, ":status", "200"), 0, api.ErrPseudo)
	}
	mustResponse(t, list("x", "y", ":status", "200"), 0, api.ErrPseudo)
	mustResponse(t, list(":status", "", ":status", ""), 0, api.ErrPseudo)
}

// P13.2: ErrConn of every connection header; te alone may be, with the value trailers.
func TestErrConn(t *testing.T) {
	for _, name := range []string{"connection", "proxy-connection", "keep-alive", "transfer-encoding", "upgrade"} {
		for _, value := range []string{"", "close", "trailers", "chunked", "x"} {
			mustAll(t, name, value, api.ErrConn)
		}
	}
	for _, value := range []string{"", "gzip", "Trailers", "trailer", "trailerss", "trailers, gzip", "gzip, trailers"} {
		mustAll(t, "te", value, api.ErrConn)
	}
}

// P13.2: the first header that errs is told, whatever comes behind it, and ahead of what the whole lacks.
func TestFirstErrorIsTold(t *testing.T) {
	wrong := []struct {
		h api.Header
		e api.Errno
	}{
		{api.Header{Name: "A", Value: "y"}, api.ErrName},
		{api.Header{Name: "x", Value: "\n"}, api.ErrValue},
		{api.Header{Name: ":no", Value: "y"}, api.ErrPseudo},
		{api.Header{Name: "upgrade", Value: "y"}, api.ErrConn},
	}
	for _, a := range wrong {
		for _, b := range wrong {
			l := []api.Header{a.h, b.h}
			mustRequest(t, l, a.e)
			mustRequest(t, append(get(), l...), a.e)
			mustResponse(t, append(list(":status", "x"), l...), 0, a.e)
			mustTrailers(t, l, a.e)
			mustTrailers(t, append(list("x", "y"), l...), a.e)
		}
		mustRequest(t, append(list(":method", ""), a.h), a.e)
		mustRequest(t, append(with(get(), "content-length", "x"), a.h), a.e)
		mustResponse(t, append(list(":status", "200", "content-length", "x"), a.h), 0, a.e)
	}
}

// P13.2: a request has a method; one that is not CONNECT has a scheme and a path, an authority or none, and no protocol.
func TestRequest(t *testing.T) {
	for _, none := range [][]api.Header{nil, {}, list("x", "y")} {
		mustRequest(t, none, api.ErrPseudo)
	}
	for _, method := range []string{"GET", "HEAD", "POST", "get", "connect", "CONNECTS", "any at all", "*"} {
		l := changed(get(), ":method", method)
		mustRequest(t, l, api.OK)
		mustRequest(t, with(l, ":authority", ""), api.OK)
		mustRequest(t, with(l, ":authority", "a", "x", "y"), api.OK)
		mustRequest(t, with(l, ":protocol", ""), api.ErrPseudo)
		mustRequest(t, with(l, ":authority", "a", ":protocol", "websocket"), api.ErrPseudo)
		mustRequest(t, with(list(":protocol", "websocket", ":authority", "a"), ":method", method), api.ErrPseudo)
		for _, name := range []string{":scheme", ":path"} {
			mustRequest(t, without(l, name), api.ErrPseudo)
			mustRequest(t, changed(l, name, ""), api.ErrPseudo)
			mustRequest(t, changed(l, name, "any at all"), api.OK)
		}
		mustRequest(t, list(":method", method, ":authority", "a"), api.ErrPseudo)
	}
	for _, l := range [][]api.Header{get(), tunnel(), upgraded()} {
		mustRequest(t, without(l, ":method"), api.ErrPseudo)
		mustRequest(t, changed(l, ":method", ""), api.ErrPseudo)
	}
}

// P13.2: CONNECT without a protocol has an authority (that may be empty), and neither scheme nor path, not even empty ones.
func TestTunnel(t *testing.T) {
	mustRequest(t, tunnel(), api.OK)
	mustRequest(t, changed(tunnel(), ":authority", ""), api.OK)
	mustRequest(t, with(tunnel(), "x", "y"), api.OK)
	mustRequest(t, without(tunnel(), ":authority"), api.ErrPseudo)
	mustRequest(t, changed(get(), ":method", "CONNECT"), api.ErrPseudo)
	for _, value := range []string{"", "/", "https"} {
		mustRequest(t, with(tunnel(), ":scheme", value), api.ErrPseudo)
		mustRequest(t, with(tunnel(), ":path", value), api.ErrPseudo)
		mustRequest(t, with(tunnel(), ":path", value, ":scheme", value), api.ErrPseudo)
	}
}

// P13.2: CONNECT with a protocol (that may be empty) has all five; authority may be empty, scheme and path not.
func TestUpgraded(t *testing.T) {
	mustRequest(t, upgraded(), api.OK)
	mustRequest(t, changed(upgraded(), ":protocol", ""), api.OK)
	mustRequest(t, changed(upgraded(), ":authority", ""), api.OK)
	mustRequest(t, without(upgraded(), ":authority"), api.ErrPseudo)
	mustRequest(t, without(upgraded(), ":protocol"), api.ErrPseudo)
	for _, name := range []string{":scheme", ":path", ":method"} {
		mustRequest(t, without(upgraded(), name), api.ErrPseudo)
		mustRequest(t, changed(upgraded(), name, ""), api.ErrPseudo)
	}
	turned := upgraded()
	slices.Reverse(turned) // their order is free
	mustRequest(t, turned, api.OK)
}

// P13.2: a response has a status of three digits, 100 to 599, which is told; every text of three digits is tried.
func TestResponse(t *testing.T) {
	for _, none := range [][]api.Header{nil, {}, list("x", "y"), get()} {
		mustResponse(t, none, 0, api.ErrPseudo)
	}
	for n := range 1000 {
		text := strconv.Itoa(n + 1000)[1:]
		if n < 100 || n > 599 {
			mustResponse(t, list(":status", text), 0, api.ErrPseudo)
			continue
		}
		mustResponse(t, list(":status", text), n, api.OK)
		mustResponse(t, list(":status", text, "x", "y", "content-length", "5"), n, api.OK)
	}
	for _, text := range []string{"", "2", "20", "0200", "2000", "1e2", "+20", "-20", "+200", "20x", "x20", "2 0", "2.0", "2²", "２００", "２", "abc", "200 OK", strings.Repeat("2", 1<<16)} {
		mustResponse(t, list(":status", text), 0, api.ErrPseudo)
		mustResponse(t, list(":status", text, "content-length", "x"), 0, api.ErrPseudo)
	}
}

// P13.2: ErrLength comes last of requests and responses; trailers are not asked for a length.
func TestErrLength(t *testing.T) {
	for _, more := range [][]string{{"content-length", ""}, {"content-length", "x"}, {"content-length", "1234567890"}, {"content-length", "5", "content-length", "05"}} {
		for _, l := range [][]api.Header{get(), tunnel(), upgraded()} {
			mustRequest(t, with(l, more...), api.ErrLength)
			mustRequest(t, with(without(l, ":method"), more...), api.ErrPseudo)
		}
		mustResponse(t, with(list(":status", "200"), more...), 0, api.ErrLength)
		mustResponse(t, with(list(":status", "20"), more...), 0, api.ErrPseudo)
		mustTrailers(t, list(more...), api.OK)
	}
}

// P13.2: of trailers none is a pseudo header; they may be none at all.
func TestTrailers(t *testing.T) {
	mustTrailers(t, nil, api.OK)
	mustTrailers(t, []api.Header{}, api.OK)
	mustTrailers(t, list("x", "y", "x", "y", "te", "trailers"), api.OK)
	mustTrailers(t, get(), api.ErrPseudo)
	mustTrailers(t, list(":status", "200"), api.ErrPseudo)
	mustTrailers(t, list("", ""), api.ErrName)
	mustTrailers(t, list(":", ""), api.ErrName)
}

// P1: lists that are far longer than the limits of other layers are gone over too.
func TestLongLists(t *testing.T) {
	l := get()
	for range 1 << 16 {
		l = append(l, api.Header{Name: "x", Value: "y"}, api.Header{Name: "content-length", Value: "7"})
	}
	mustRequest(t, l, api.OK)
	mustLength(t, l, 7, true, api.OK)
	l[len(l)-1].Value = "8"
	if e := message.Request(l); e != api.ErrLength {
		t.Errorf("Request of a long list: %d", e)
	}
	l[len(l)-1].Name = "upgrade"
	if e := message.Trailers(l[3:]); e != api.ErrConn {
		t.Errorf("Trailers of a long list: %d", e)
	}
}

// P4, P5: a list is left as it was, and asked again it is answered the same.
func TestListsAreLeft(t *testing.T) {
	for _, l := range [][]api.Header{get(), upgraded(), with(get(), "connection", "x"), list(":status", "200", "content-length", "5")} {
		was := slices.Clone(l)
		for range 3 {
			e, f := message.Request(l), message.Trailers(l)
			n, g := message.Response(l)
			size, there, h := message.Length(l)
			text, found := message.Find(l, ":status")
			if e != message.Request(was) || f != message.Trailers(was) || !slices.Equal(l, was) {
				t.Fatalf("%s: %d, %d", told(l), e, f)
			}
			if found && (n != 200 || g != api.OK || size != 5 || !there || h != api.OK || text != "200") {
				t.Fatalf("%s: %d, %d, %d, %v, %d, %q", told(l), n, g, size, there, h, text)
			}
		}
	}
}

// plainHead looks at the headers one by one by asking back in the list, without a map.
func plainHead(l []api.Header, may string) api.Errno {
	for i, h := range l {
		pseudo := strings.HasPrefix(h.Name, ":")
		if pseudo && !plainName(h.Name[1:]) || !pseudo && !plainName(h.Name) {
			return api.ErrName
		}
		if !plainValue(h.Value) {
			return api.ErrValue
		}
		for _, b := range l[:i] {
			if pseudo && (b.Name == h.Name || b.Name[0] != ':') {
				return api.ErrPseudo
			}
		}
		if pseudo && !strings.Contains(may, " "+h.Name+" ") {
			return api.ErrPseudo
		}
		if h.Name == "te" && h.Value != "trailers" || strings.Contains(" connection proxy-connection keep-alive transfer-encoding upgrade ", " "+h.Name+" ") {
			return api.ErrConn
		}
	}
	return api.OK
}

// plainWhole asks for the pseudo headers of a request in the chapter's words, one error behind the other.
func plainWhole(l []api.Header) api.Errno {
	there, value := map[string]bool{}, map[string]string{}
	for _, h := range l {
		there[h.Name], value[h.Name] = true, h.Value
	}
	if !there[":method"] || value[":method"] == "" {
		return api.ErrPseudo
	}
	if value[":method"] == "CONNECT" && !there[":protocol"] {
		if there[":scheme"] || there[":path"] || !there[":authority"] {
			return api.ErrPseudo
		}
		return api.OK
	}
	if there[":protocol"] && value[":method"] != "CONNECT" {
		return api.ErrPseudo
	}
	if !there[":scheme"] || !there[":path"] || value[":scheme"] == "" || value[":path"] == "" {
		return api.ErrPseudo
	}
	if there[":protocol"] && !there[":authority"] {
		return api.ErrPseudo
	}
	return api.OK
}

// plainLength asks for the digits of every content-length.
func plainLength(l []api.Header) (int, bool, api.Errno) {
	var texts []string
	for _, h := range l {
		if h.Name == "content-length" {
			texts = append(texts, h.Value)
		}
	}
	if len(texts) == 0 {
		return 0, false, api.OK
	}
	n := 0
	for _, s := range texts {
		if s != texts[0] || len(s) < 1 || len(s) > 9 || strings.Trim(s, "0123456789") != "" {
			return 0, false, api.ErrLength
		}
	}
	for _, c := range []byte(texts[0]) {
		n = n*10 + int(c-'0')
	}
	return n, true, api.OK
}

// P13.1, P13.2: random lists, of texts that are nearly right, beside a plain model.
func TestRandomLists(t *testing.T) {
	r := rand.New(rand.NewSource(13))
	pseudo := []string{":method", ":method", ":scheme", ":authority", ":path", ":protocol", ":status", ":no"}
	names := []string{"x", "te", "upgrade", "content-length", "content-length", "host", "X", "", ":"}
	values := []string{"", "GET", "CONNECT", "CONNECT", "https", "/", "200", "99", "trailers", "5", "05", "a b", " a", "a\n"}
	counts := map[api.Errno]int{}
	for range 200000 {
		var l []api.Header
		r.Shuffle(len(pseudo), func(i, j int) { pseudo[i], pseudo[j] = pseudo[j], pseudo[i] })
		for _, name := range pseudo[:r.Intn(7)] {
			if name[1] != 'n' && (name != ":status" || r.Intn(3) == 0) || r.Intn(20) == 0 {
				l = append(l, api.Header{Name: name, Value: values[r.Intn(len(values)-r.Intn(3))]})
			}
		}
		for range r.Intn(3) {
			l = append(l, api.Header{Name: names[r.Intn(len(names)-r.Intn(4))], Value: values[r.Intn(len(values))], Secret: r.Intn(2) == 0})
		}
		n, there, length := plainLength(l)
		mustLength(t, l, n, there, length)
		mustTrailers(t, l, plainHead(l, ""))
		e := plainHead(l, " :method :scheme :authority :path :protocol ")
		if e == api.OK {
			e = plainWhole(l)
		}
		if e == api.OK {
			e = length
		}
		mustRequest(t, l, e)
		counts[e]++
		e, n = plainHead(l, " :status "), 0
		if e == api.OK {
			e = length
			if len(l) == 0 || l[0] != (api.Header{Name: ":status", Value: "200"}) {
				e = api.ErrPseudo
			}
		}
		if e == api.OK {
			n = 200
		}
		mustResponse(t, l, n, e)
		if t.Failed() {
			return
		}
	}
	for _, e := range []api.Errno{api.OK, api.ErrName, api.ErrValue, api.ErrPseudo, api.ErrConn, api.ErrLength} {
		if counts[e] < 20 {
			t.Errorf("error %d came %d times only", e, counts[e])
		}
	}
}
