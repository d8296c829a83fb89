package encoding_test

import (
	"math/rand"
	"strings"
	"testing"

	"domino/api"
	"domino/encoding"
)

// nat, text and list return items, without the package.
func nat(a api.Nat) api.Item       { return api.Item{Kind: 0, Nat: a} }
func text(s string) api.Item       { return api.Item{Kind: 1, Text: s} }
func list(l ...api.Item) api.Item  { return api.Item{Kind: 2, List: l} }
func bytes(n int, b string) string { return strings.Repeat(b, n) }

// many is more than the number of calls that may be inside each other.
const many = 6_000_000

// nest returns an item inside so many lists.
func nest(i api.Item, lists int) api.Item {
	for range lists {
		i = list(i)
	}
	return i
}

// same reports whether two items are the same value; nil and empty lists are.
func same(a, b api.Item) bool {
	equal := a.Kind == b.Kind && a.Nat == b.Nat && a.Text == b.Text && len(a.List) == len(b.List)
	for i := range a.List {
		equal = equal && same(a.List[i], b.List[i])
	}
	return equal
}

// canonical is the definition of layer 1.
func canonical(a api.Nat) bool { return len(a) <= 128 && !strings.HasPrefix(string(a), "\x00") }

// valid and depth are the definitions of an item.
func valid(i api.Item) bool {
	l := true
	for _, j := range i.List {
		l = l && valid(j)
	}
	switch i.Kind {
	case 0:
		return canonical(i.Nat) && i.Text == "" && len(i.List) == 0
	case 1:
		return i.Nat == "" && len(i.List) == 0
	case 2:
		return i.Nat == "" && i.Text == "" && l
	}
	return false
}

func depth(i api.Item) int {
	if i.Kind != 2 {
		return 0
	}
	d := 0
	for _, j := range i.List {
		d = max(d, depth(j))
	}
	return d + 1
}

// length returns how a length is written.
func length(n int) string {
	if n < 128 {
		return string([]byte{byte(n)})
	}
	return string([]byte{byte(n%128 + 128)}) + length(n/128)
}

// encode returns the encoding of a valid item, as the definition says.
func encode(i api.Item) string {
	content := string(i.Nat) + i.Text
	for _, j := range i.List {
		content += encode(j)
	}
	return string([]byte{byte(i.Kind)}) + length(len(content)) + content
}

// random returns an item with at most so many lists around each other, now and then one that is not valid.
func random(r *rand.Rand, lists int) api.Item {
	var i api.Item
	switch i.Kind = r.Intn(3); {
	case i.Kind == 2 && lists > 0:
		for range r.Intn(5) {
			i.List = append(i.List, random(r, lists-1))
		}
	case i.Kind == 1:
		i.Text = text(letters(r, r.Intn(200))).Text
	default:
		i.Kind = 0
		i.Nat = api.Nat(strings.TrimLeft(letters(r, r.Intn(129)), "\x00"))
	}
	return spoiled(r, i)
}

// letters returns n bytes, many of which mean something in an encoding.
func letters(r *rand.Rand, n int) string {
	var out []byte
	for range n {
		out = append(out, "\x00\x01\x02\x03\x05\x7f\x80\x81\xff"[r.Intn(9)])
	}
	return string(out)
}

// spoiled returns the item, which it makes invalid now and then.
func spoiled(r *rand.Rand, i api.Item) api.Item {
	switch r.Intn(300) {
	case 0:
		i.Kind = []int{-1, 3, 256, 258, 1 << 40}[r.Intn(5)]
	case 1:
		i.Nat += "\x01"
	case 2:
		i.Nat = "\x00" + i.Nat
	case 3:
		i.Text += "t"
	case 4:
		i.List = append(i.List, nat("\x01"))
	}
	return i
}

// expect checks Encode of an item.
func expect(t *testing.T, what string, i api.Item, want string, wantErr api.Errno) {
	t.Helper()
	s, err := encoding.Encode(i)
	if s != want || err != wantErr {
		t.Errorf("Encode of %s is %q.. of %d bytes and %d, want %q.. of %d bytes and %d", what, s[:min(40, len(s))], len(s), err, want[:min(40, len(want))], len(want), wantErr)
	}
}

func TestP8_1EncodeExamples(t *testing.T) {
	for _, c := range []struct {
		i api.Item
		s string
	}{
		{nat("\x05"), "\x00\x01\x05"}, {nat(""), "\x00\x00"}, {nat("\xff\x00"), "\x00\x02\xff\x00"}, {api.Item{}, "\x00\x00"},
		{nat(api.Nat(bytes(127, "\x07"))), "\x00\x7f" + bytes(127, "\x07")}, {nat(api.Nat(bytes(128, "\xff"))), "\x00\x80\x01" + bytes(128, "\xff")},
		{text("ab"), "\x01\x02ab"}, {text(""), "\x01\x00"}, {text("\x00"), "\x01\x01\x00"}, {text("é\xff"), "\x01\x03\xc3\xa9\xff"},
		{text(bytes(127, "x")), "\x01\x7f" + bytes(127, "x")}, {text(bytes(128, "x")), "\x01\x80\x01" + bytes(128, "x")}, {text(bytes(300, "x")), "\x01\xac\x02" + bytes(300, "x")},
		{text(bytes(16383, "x")), "\x01\xff\x7f" + bytes(16383, "x")}, {text(bytes(16384, "x")), "\x01\x80\x80\x01" + bytes(16384, "x")},
		{list(), "\x02\x00"}, {api.Item{Kind: 2, List: []api.Item{}}, "\x02\x00"}, {list(nat("\x05"), list()), "\x02\x05\x00\x01\x05\x02\x00"},
		{list(list(list())), "\x02\x04\x02\x02\x02\x00"}, {list(nat(""), text("")), "\x02\x04\x00\x00\x01\x00"}, {list(text(bytes(126, "x"))), "\x02\x80\x01\x01\x7e" + bytes(126, "x")},
	} {
		expect(t, "an item", c.i, c.s, api.OK)
		if own := encode(c.i); own != c.s {
			t.Errorf("the definition says %q, want %q", own, c.s)
		}
	}
}

func TestP8_1EncodeForm(t *testing.T) {
	for _, i := range []api.Item{
		{Kind: -1}, {Kind: 3}, {Kind: 256}, {Kind: 258}, {Kind: -256}, {Kind: 1 << 40}, {Kind: 3, Text: "a"}, {Kind: 3, List: []api.Item{nat("")}},
		nat("\x00"), nat("\x00\x01"), nat(api.Nat(bytes(129, "\x01"))), nat(api.Nat(bytes(70000, "\x01"))),
		{Kind: 0, Text: "a"}, {Kind: 0, Nat: "\x01", Text: "a"}, {Kind: 0, List: []api.Item{nat("")}}, {Kind: 0, Nat: "\x01", List: []api.Item{nat("")}},
		{Kind: 1, Nat: "\x01"}, {Kind: 1, Nat: "\x00", Text: "a"}, {Kind: 1, Text: "a", List: []api.Item{text("")}},
		{Kind: 2, Nat: "\x01"}, {Kind: 2, Text: "a"}, {Kind: 2, Nat: "\x01", List: []api.Item{nat("")}}, {Kind: 2, Text: "a", List: []api.Item{nat("")}},
	} {
		for _, c := range []api.Item{i, list(i), list(nat("\x05"), i), list(i, text("a")), nest(i, 31), nest(i, 40), list(nest(nat(""), 40), i), list(text(bytes(70000, "x")), i)} {
			expect(t, "an item that is not valid", c, "", api.ErrForm)
		}
	}
}

func TestP8_1EncodeDeep(t *testing.T) {
	for _, i := range []api.Item{nat("\x05"), text("ab")} {
		expect(t, "an item in 32 lists", nest(i, 32), encode(nest(i, 32)), api.OK)
		expect(t, "an item in 33 lists", nest(i, 33), "", api.ErrDeep)
	}
	expect(t, "32 lists", nest(list(), 31), encode(nest(list(), 31)), api.OK)
	expect(t, "33 lists", nest(list(), 32), "", api.ErrDeep)
	expect(t, "a list that is too deep behind others", list(nat(""), nest(list(), 30), nest(list(), 32)), "", api.ErrDeep)
	expect(t, "a list that is too deep before others", list(nest(list(), 32), nat("")), "", api.ErrDeep)
	expect(t, "lists beside each other", list(nest(list(), 30), nest(list(), 30)), encode(list(nest(list(), 30), nest(list(), 30))), api.OK)
	expect(t, "a list that is too deep and too long", list(text(bytes(70000, "x")), nest(list(), 32)), "", api.ErrDeep)
	// Deeper than calls could be.
	inner := []api.Item{nat("\x05")}
	i := nest(list(inner...), many)
	expect(t, "very many lists", i, "", api.ErrDeep)
	inner[0] = nat("\x00")
	expect(t, "very many lists around a number that is not canonical", i, "", api.ErrForm)
}

func TestP8_1EncodeLong(t *testing.T) {
	longest := text(bytes(65532, "x"))
	expect(t, "a string of 65532 bytes", longest, encode(longest), api.OK)
	expect(t, "a string of 65533 bytes", text(bytes(65533, "x")), "", api.ErrLong)
	expect(t, "a string of 65536 bytes", text(bytes(65536, "x")), "", api.ErrLong)
	expect(t, "a string of 1000000 bytes", text(bytes(1000000, "x")), "", api.ErrLong)
	expect(t, "a list of a string of 65532 bytes", list(longest), "", api.ErrLong)
	inner := list(text(bytes(65528, "x")))
	expect(t, "a list of 65536 bytes", inner, encode(inner), api.OK)
	expect(t, "a list of 65537 bytes", list(text(bytes(65529, "x"))), "", api.ErrLong)
	expect(t, "a list of both", list(text(bytes(40000, "x")), text(bytes(40000, "x"))), "", api.ErrLong)
	numbers := make([]api.Item, 32767)
	expect(t, "32766 numbers", list(numbers[1:]...), encode(list(numbers[1:]...)), api.OK)
	expect(t, "32767 numbers", list(numbers...), "", api.ErrLong)
	expect(t, "a list of 32767 numbers in a list", list(list(numbers...)), "", api.ErrLong)
	expect(t, "a million numbers", list(make([]api.Item, 1000000)...), "", api.ErrLong)
}

func TestP8_1EncodeRandom(t *testing.T) {
	r := rand.New(rand.NewSource(81))
	count := map[api.Errno]int{}
	for range 3000 {
		i := random(r, 6)
		if r.Intn(3) == 0 {
			i = nest(i, r.Intn(36))
		}
		want, wantErr := "", api.ErrForm
		switch {
		case !valid(i):
		case depth(i) > 32:
			wantErr = api.ErrDeep
		default:
			if want, wantErr = encode(i), api.OK; len(want) > 65536 {
				want, wantErr = "", api.ErrLong
			}
		}
		expect(t, "a random item", i, want, wantErr)
		count[wantErr]++
	}
	if count[api.OK] < 1000 || count[api.ErrForm] < 50 || count[api.ErrDeep] < 50 {
		t.Errorf("the results are %v", count)
	}
}

func TestP8_2Items(t *testing.T) {
	for _, a := range []api.Nat{"", "\x05", "\x00", "\x00\x01", api.Nat(bytes(129, "\x01"))} {
		if i := encoding.Nat(a); !same(i, nat(a)) {
			t.Errorf("Nat(%q) is %v", a, i)
		}
		for _, negative := range []bool{false, true} {
			sign := map[bool]api.Nat{true: "\x01", false: ""}[negative]
			if i := encoding.Int(api.Int{Neg: negative, Abs: a}); !same(i, list(nat(sign), nat(a))) {
				t.Errorf("Int of %v, %q is %v", negative, a, i)
			}
		}
	}
	for _, s := range []string{"", "ab", "\x00", "\xff", bytes(70000, "x")} {
		if i := encoding.Text(s); !same(i, text(s)) {
			t.Errorf("Text of %d bytes is %v", len(s), i)
		}
	}
	odd := api.Item{Kind: 7, Nat: "\x00", Text: "t", List: []api.Item{{Kind: -1}}}
	for _, l := range [][]api.Item{nil, {}, {nat("")}, {nat("\x05"), text("ab")}, {list(), list(nat("\x01"))}, {odd, odd}, make([]api.Item, 70000)} {
		if i := encoding.List(l...); !same(i, list(l...)) {
			t.Errorf("List of %d items is %v", len(l), i)
		}
	}
}

// TestP8_2DeepList checks a list that is nested more deeply than calls could be.
func TestP8_2DeepList(t *testing.T) {
	i := encoding.List(nest(nat("\x05"), many))
	count := 0
	for ; i.Kind == 2 && len(i.List) == 1; i = i.List[0] {
		count++
	}
	if count != many+1 || !same(i, nat("\x05")) {
		t.Errorf("%v is inside %d lists", i, count)
	}
}

func TestP8_2ToInt(t *testing.T) {
	for _, a := range []api.Int{{}, {Abs: "\x05"}, {Neg: true, Abs: "\x05"}, {Neg: true, Abs: "\x01\x00"}, {Abs: api.Nat(bytes(128, "\xff"))}, {Neg: true, Abs: api.Nat(bytes(128, "\x01"))}} {
		if got, ok := encoding.ToInt(encoding.Int(a)); got != a || !ok {
			t.Errorf("ToInt of the item of %v is %v and %v", a, got, ok)
		}
	}
	one := nat("\x01")
	for _, i := range []api.Item{
		{}, one, text("\x01"), list(), list(one), list(one, one, one), list(nat(""), one, nat("")), list(list(nat(""), one)),
		list(one, nat("")), list(nat("\x02"), one), list(nat("\x01\x01"), one), list(nat("\x00"), one), list(nat("\x00\x01"), one),
		list(one, nat("\x00")), list(nat(""), nat("\x00")), list(nat(""), nat("\x00\x01")), list(nat(""), nat(api.Nat(bytes(129, "\x01")))), list(one, nat(api.Nat(bytes(129, "\x01")))),
		list(text(""), one), list(one, text("")), list(nat(""), text("")), list(list(), one), list(one, list()), list(nat(""), list(one)), list(text("\x01"), text("\x05")),
		{Kind: 2, Nat: "\x01", List: []api.Item{one, one}}, {Kind: 2, Text: "t", List: []api.Item{one, one}}, {Kind: 1, List: []api.Item{one, one}}, {Kind: 0, List: []api.Item{one, one}}, {Kind: 3, List: []api.Item{one, one}},
		list(api.Item{Nat: "\x01", Text: "t"}, one), list(one, api.Item{Nat: "\x01", Text: "t"}), list(api.Item{Nat: "\x01", List: []api.Item{one}}, one), list(one, api.Item{Nat: "\x01", List: []api.Item{one}}),
		list(api.Item{Kind: 3, Nat: "\x01"}, one), list(one, api.Item{Kind: -1, Nat: "\x01"}), list(api.Item{Kind: 1, Nat: "\x01"}, one), list(one, api.Item{Kind: 2, Nat: "\x01"}),
	} {
		if got, ok := encoding.ToInt(i); got != (api.Int{}) || ok {
			t.Errorf("ToInt(%v) is %v and %v", i, got, ok)
		}
	}
	// Empty lists are those that are absent.
	if got, ok := encoding.ToInt(list(api.Item{Nat: "\x01", List: []api.Item{}}, one)); got != (api.Int{Neg: true, Abs: "\x01"}) || !ok {
		t.Errorf("ToInt of an integer with empty lists is %v and %v", got, ok)
	}
}

func TestP8_2Memory(t *testing.T) {
	inner := append(make([]api.Item, 0, 4), nat("\x01"), text("a"))
	empty := make([]api.Item, 0, 4)
	l := append(make([]api.Item, 0, 4), list(inner...), nat("\x02"), api.Item{Kind: 2, List: empty})
	l[0].List = inner
	a, b := encoding.List(l...), encoding.List(l...)
	double := encoding.List(l[0], l[0])
	a.List[0].List[0] = nat("\x07")
	a.List[1] = nat("\x07")
	double.List[0].List[1] = nat("\x07")
	_ = append(a.List, nat("\x08"))
	_ = append(a.List[0].List, nat("\x08"))
	_ = append(a.List[2].List, nat("\x08"))
	want := list(list(nat("\x01"), text("a")), nat("\x02"), list())
	if !same(b, want) || !same(list(l...), want) || !same(double.List[1], want.List[0]) {
		t.Errorf("the items became %v, %v and %v", b, l, double)
	}
	for _, left := range []api.Item{l[:4][3], inner[:4][2], empty[:1][0]} {
		if !same(left, api.Item{}) {
			t.Errorf("%v was written behind a list", left)
		}
	}
	l[0].List[0] = nat("\x09")
	if !same(b, want) {
		t.Errorf("a list shares memory with its argument: %v", b)
	}
}
