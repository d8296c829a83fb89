package encoding_test

import (
	"math/rand"
	"strings"
	"testing"

	"domino/api"
	"domino/encoding"
)

// expectRead checks Read of a string.
func expectRead(t *testing.T, s string, want api.Item, wantLength int, wantErr api.Errno) {
	t.Helper()
	i, n, err := encoding.Read(s)
	if !same(i, want) || n != wantLength || err != wantErr {
		t.Errorf("Read of %q.. of %d bytes is %v, %d and %d, want %d and %d", s[:min(40, len(s))], len(s), i, n, err, wantLength, wantErr)
	}
}

// expectDecode checks Decode of a string, and Read of it where Decode fails.
func expectDecode(t *testing.T, s string, want api.Item, wantErr api.Errno) {
	t.Helper()
	if i, err := encoding.Decode(s); !same(i, want) || err != wantErr {
		t.Errorf("Decode of %q.. of %d bytes is %v and %d, want %d", s[:min(40, len(s))], len(s), i, err, wantErr)
	}
}

// expectFailure checks that neither Read nor Decode returns an item of a string.
func expectFailure(t *testing.T, s string, want api.Errno) {
	t.Helper()
	expectRead(t, s, api.Item{}, 0, want)
	expectDecode(t, s, api.Item{}, want)
}

// wrap returns the encoding of a list with a content, inside so many lists in all.
func wrap(content string, lists int) string {
	for range lists {
		content = "\x02" + length(len(content)) + content
	}
	return content
}

func TestP8_1ReadExamples(t *testing.T) {
	for _, c := range []struct {
		s string
		i api.Item
	}{
		{"\x00\x01\x05", nat("\x05")}, {"\x00\x00", nat("")}, {"\x01\x02ab", text("ab")}, {"\x01\x00", text("")}, {"\x01\x01\x00", text("\x00")},
		{"\x02\x05\x00\x01\x05\x02\x00", list(nat("\x05"), list())}, {"\x02\x00", list()}, {"\x02\x04\x02\x02\x02\x00", list(list(list()))},
		{"\x01\xac\x02" + bytes(300, "x"), text(bytes(300, "x"))}, {"\x00\x80\x01" + bytes(128, "\xff"), nat(api.Nat(bytes(128, "\xff")))},
	} {
		expectDecode(t, c.s, c.i, api.OK)
		for _, behind := range []string{"", "\x00", "\x03", "\x80", c.s, "\x00\x01\x00"} {
			expectRead(t, c.s+behind, c.i, len(c.s), api.OK)
			if behind != "" {
				expectDecode(t, c.s+behind, api.Item{}, api.ErrSyntax)
			}
		}
		for k := range len(c.s) {
			expectFailure(t, c.s[:k], api.ErrSyntax)
		}
	}
}

func TestP8_1ReadSyntax(t *testing.T) {
	for _, s := range []string{
		// kinds
		"", "\x03\x00", "\xff\x00", "\x80\x00", "\x02\x02\x03\x00", "\x02\x04\x00\x00\x04\x00",
		// lengths that are missing
		"\x00", "\x01", "\x02", "\x01\x80", "\x01\xff\xff", "\x02\x01\x00", "\x02\x01\x01", "\x02\x01\x02", "\x02\x02\x01\x81", "\x02\x01\x00\x00", "\x02\x02\x01\x81\x00",
		// lengths with too many bytes
		"\x00\x80\x00", "\x00\x81\x00\x05", "\x01\x81\x00a", "\x01\x81\x80\x00a", "\x01\x80\x80\x80\x80\x00", "\x01\x80\x80\x80\x80\x80\x00", "\x01\x81\x80\x80\x80\x80\x00a", "\x02\x82\x00\x00\x00", "\x01\xff\xff\xff\xff\xff\x00",
		// lengths that are too great
		"\x00\x01", "\x00\x02\x05", "\x01\x02a", "\x01\x03ab", "\x02\x01", "\x02\x02\x00\x01\x05", "\x02\x03\x00\x02\x05\x05", "\x02\x03\x01\x02ab", "\x02\x04\x02\x03\x00\x00\x00", "\x02\x05\x00\x01\x05\x00\x01\x05",
		"\x01\xff\xff\xff\x7fa", "\x01\xff\xff\xff\xff\x0fa", "\x01\xff\xff\xff\xff\x7fa", "\x01\x80\x80\x80\x80\x10a", "\x01\x81\x80\x80\x80\x10a", "\x02\x80\x80\x80\x80\x20\x00\x00",
		// numbers that are not canonical
		"\x00\x01\x00", "\x00\x02\x00\x05", "\x00\x81\x01" + bytes(129, "\x01"), "\x00\x80\x01\x00" + bytes(127, "\x01"), "\x02\x03\x00\x01\x00",
	} {
		expectFailure(t, s, api.ErrSyntax)
		if s != "" {
			// What follows a list does not complete its elements.
			expectFailure(t, wrap("\x00\x01\x05"+s, 1)+bytes(2000, "\x01"), api.ErrSyntax)
		}
	}
}

func TestP8_1ReadDeep(t *testing.T) {
	inner := nat("\x05")
	for _, lists := range []int{1, 31, 32} {
		expectDecode(t, wrap("\x00\x01\x05", lists), nest(inner, lists), api.OK)
	}
	for _, lists := range []int{33, 34, 100, 1000, 15000} {
		expectFailure(t, wrap("\x00\x01\x05", lists), api.ErrDeep)
	}
	expectDecode(t, wrap("", 32), nest(list(), 31), api.OK)
	expectFailure(t, wrap("", 33), api.ErrDeep)
	for _, c := range []struct {
		what, s string
		want    api.Errno
	}{
		{"a list without a length", wrap("\x02", 32), api.ErrDeep},
		{"a list with a length that is too great", wrap("\x02\x05", 32), api.ErrDeep},
		{"a list with a superfluous byte", wrap("\x02\x80\x00", 32), api.ErrDeep},
		{"a list less deep without a length", wrap("\x02", 31), api.ErrSyntax},
		{"a kind that does not exist", wrap("\x03", 32), api.ErrSyntax},
		{"a string without a length", wrap("\x01", 32), api.ErrSyntax},
		{"a wrong number before the list", wrap("\x00\x01\x00\x02\x00", 32), api.ErrSyntax},
		{"a wrong number behind the list", wrap("\x02\x00\x00\x01\x00", 32), api.ErrDeep},
		{"the end inside the lists", wrap("\x02\x00", 32)[:64], api.ErrSyntax},
	} {
		i, n, err := encoding.Read(c.s)
		if !same(i, api.Item{}) || n != 0 || err != c.want {
			t.Errorf("Read of %s is %v, %d and %d, want %d", c.what, i, n, err, c.want)
		}
	}
}

func TestP8_1ReadLong(t *testing.T) {
	longest := encode(text(bytes(65532, "x")))
	expectDecode(t, longest, text(bytes(65532, "x")), api.OK)
	expectRead(t, longest, text(bytes(65532, "x")), 65536, api.OK)
	expectRead(t, "\x00\x00"+bytes(65534, "\x03"), nat(""), 2, api.OK)
	expectDecode(t, "\x00\x00"+bytes(65534, "\x03"), api.Item{}, api.ErrSyntax)
	for _, s := range []string{longest + "\x00", encode(text(bytes(65533, "x"))), "\x00\x00" + bytes(65535, "\x00"), bytes(65537, "\x02"), bytes(65537, "\x03"), bytes(1000000, "\x02")} {
		expectFailure(t, s, api.ErrLong)
	}
	expectFailure(t, bytes(65536, "\x02"), api.ErrSyntax)
	numbers := list(make([]api.Item, 32766)...)
	expectDecode(t, encode(numbers), numbers, api.OK)
}

// TestP8_1AllShort compares Decode of all short strings of some bytes with the encodings of all items that have one.
func TestP8_1AllShort(t *testing.T) {
	const most = 6
	letters := "\x00\x01\x02\x03\x04\x80\x81"
	items := map[string]api.Item{}
	for _, i := range itemsOf(letters, most) {
		items[encode(i)] = i
	}
	found := 0
	var visit func(s string)
	visit = func(s string) {
		i, ok := items[s]
		if ok {
			found++
			expectDecode(t, s, i, api.OK)
		} else {
			expectDecode(t, s, api.Item{}, api.ErrSyntax)
		}
		if len(s) == most {
			return
		}
		for k := range letters {
			visit(s + letters[k:k+1])
		}
	}
	visit("")
	if found != len(items) || found < 1000 {
		t.Errorf("%d of %d encodings were found", found, len(items))
	}
}

// itemsOf returns all valid items of some bytes whose encodings have at most so many bytes, at most 129.
func itemsOf(letters string, most int) []api.Item {
	var out []api.Item
	for _, s := range stringsOf(letters, most-2) {
		out = append(out, text(s))
		if !strings.HasPrefix(s, "\x00") {
			out = append(out, nat(api.Nat(s)))
		}
	}
	for _, l := range listsOf(letters, most-2) {
		out = append(out, list(l...))
	}
	return out
}

// stringsOf returns all strings of some bytes with at most so many ones.
func stringsOf(letters string, most int) []string {
	out := []string{""}
	for from := 0; from < len(out); from++ {
		for k := range letters {
			if len(out[from]) < most {
				out = append(out, out[from]+letters[k:k+1])
			}
		}
	}
	return out
}

// listsOf returns all lists of items of some bytes whose encodings have at most so many bytes together.
func listsOf(letters string, most int) [][]api.Item {
	out := [][]api.Item{nil}
	if most < 2 {
		return out
	}
	for _, first := range itemsOf(letters, most) {
		for _, rest := range listsOf(letters, most-len(encode(first))) {
			out = append(out, append([]api.Item{first}, rest...))
		}
	}
	return out
}

func TestP8_1ReadMemory(t *testing.T) {
	s := encode(list(list(nat("\x01"), text("a")), list(nat("\x01"), text("a"))))
	a, _, _ := encoding.Read(s)
	b, _ := encoding.Decode(s)
	a.List[0].List[0] = nat("\x07")
	a.List[1] = text("b")
	_ = append(a.List[0].List, nat("\x08"))
	_ = append(a.List, nat("\x08"))
	want := list(list(nat("\x01"), text("a")), list(nat("\x01"), text("a")))
	if c, _ := encoding.Decode(s); !same(b, want) || !same(c, want) {
		t.Errorf("the items became %v and %v", b, c)
	}
}

func TestP8_3ThereAndBack(t *testing.T) {
	r := rand.New(rand.NewSource(83))
	for range 2000 {
		i := random(r, 6)
		s, err := encoding.Encode(i)
		if err != api.OK {
			continue
		}
		expectDecode(t, s, i, api.OK)
		expectRead(t, s+letters(r, r.Intn(10)), i, len(s), api.OK)
		if k := r.Intn(len(s)); k < len(s) {
			expectFailure(t, s[:k], api.ErrSyntax)
		}
	}
}

// TestP8_3BackAndThere checks that what Decode accepts is an encoding, for encodings that were changed and for bytes at random.
func TestP8_3BackAndThere(t *testing.T) {
	r := rand.New(rand.NewSource(84))
	accepted := 0
	for range 20000 {
		s := []byte(letters(r, r.Intn(12)))
		if i := random(r, 3); valid(i) && r.Intn(2) == 0 {
			s = []byte(encode(i))
			s[r.Intn(len(s))] = letters(r, 1)[0]
		}
		i, err := encoding.Decode(string(s))
		if err != api.OK {
			continue
		}
		accepted++
		if again, err := encoding.Encode(i); again != string(s) || err != api.OK {
			t.Errorf("%q is decoded, and encoded as %q and %d", s, again, err)
		}
	}
	if accepted < 500 {
		t.Errorf("only %d strings were accepted", accepted)
	}
}

func TestP8_3NoBeginnings(t *testing.T) {
	all := itemsOf("\x00\x01\x02", 6)
	encodings := map[string]bool{}
	for _, i := range all {
		s, err := encoding.Encode(i)
		if err != api.OK || encodings[s] {
			t.Errorf("the encoding of %v is %q and %d, and may be that of another item", i, s, err)
		}
		encodings[s] = true
	}
	for s := range encodings {
		for k := range len(s) {
			if encodings[s[:k]] {
				t.Errorf("%q begins with the encoding %q", s, s[:k])
			}
		}
	}
}
