package access_test

import (
	"bytes"
	"math/rand/v2"
	"slices"
	"strconv"
	"testing"

	"smartcard/access"
	"smartcard/api"
)

// bytesOf returns the encoding of a condition that is valid.
func bytesOf(c api.Cond) []byte {
	b := []byte{byte(c.Op)}
	switch c.Op {
	case api.CondPin, api.CondKey, api.CondState, api.CondLevel:
		b = append(b, byte(c.N))
	case api.CondAnd, api.CondOr:
		b = append(b, byte(len(c.Kids)))
		for _, kid := range c.Kids {
			b = append(b, bytesOf(kid)...)
		}
	}
	return b
}

// object returns the encoding of a rule whose condition is given by its encoding.
func object(ops int, cond ...byte) []byte {
	return append([]byte{0x80, byte(1 + len(cond)), byte(ops)}, cond...)
}

// equal compares two conditions independently of the package's own Same.
func equal(a, b api.Cond) bool {
	return a.Op == b.Op && a.N == b.N && slices.EqualFunc(a.Kids, b.Kids, equal)
}

// randomRules returns rules that are valid.
func randomRules(r *rand.Rand) []api.Rule {
	var l []api.Rule
	for range r.IntN(9) {
		l = append(l, api.Rule{Ops: 1 + r.IntN(255), Cond: random(r, 1+r.IntN(16), 8, false)})
	}
	return l
}

// P14.4 and P14.9

func expectEncoding(t *testing.T, l []api.Rule, want []byte) {
	t.Helper()
	if b, e := access.Encode(l); e != api.OK || !bytes.Equal(b, want) {
		t.Fatalf("Encode of %v: %x and %d, not %x", l, b, e, want)
	}
	same := func(x, y api.Rule) bool { return x.Ops == y.Ops && equal(x.Cond, y.Cond) }
	if back, e := access.Decode(want); e != api.OK || !slices.EqualFunc(back, l, same) {
		t.Fatalf("Decode of %x: %v and %d, not %v", want, back, e, l)
	}
}

func TestEncode(t *testing.T) {
	expectEncoding(t, nil, nil)
	expectEncoding(t, []api.Rule{{Ops: 3, Cond: samples[16]}}, []byte{0x80, 0x0b, 3, 6, 2, 2, 1, 7, 2, 3, 2, 4, 3})
	expectEncoding(t, []api.Rule{{Ops: 255, Cond: never}, {Ops: 1, Cond: always}, {Ops: 128, Cond: level(0x33)}}, []byte{0x80, 2, 255, 0, 0x80, 2, 1, 1, 0x80, 3, 128, 5, 0x33})
	for _, c := range samples {
		expectEncoding(t, []api.Rule{{Ops: 7, Cond: c}}, object(7, bytesOf(c)...))
		expectEncoding(t, slices.Repeat([]api.Rule{{Ops: 7, Cond: c}}, 8), bytes.Repeat(object(7, bytesOf(c)...), 8))
	}
	r := rand.New(rand.NewPCG(14, 4))
	for range 5000 {
		l := randomRules(r)
		var want []byte
		for _, x := range l {
			want = append(want, object(x.Ops, bytesOf(x.Cond)...)...)
		}
		expectEncoding(t, l, want)
	}
}

func TestErrorsOfEncode(t *testing.T) {
	check := func(l []api.Rule) {
		t.Helper()
		if b, e := access.Encode(l); e == api.OK || e != access.CheckRules(l) || len(b) > 0 {
			t.Errorf("Encode of %v: %x and %d", l, b, e)
		}
	}
	good := api.Rule{Ops: 1, Cond: always}
	for _, c := range slices.Concat(invalid, long) {
		check([]api.Rule{{Ops: 1, Cond: c}})
		check([]api.Rule{good, {Ops: 1, Cond: c}, good})
	}
	check([]api.Rule{{Ops: 0, Cond: always}})
	check([]api.Rule{good, {Ops: 256, Cond: always}})
	check(slices.Repeat([]api.Rule{good}, 9))
}

func expectError(t *testing.T, b []byte, want api.Errno) {
	t.Helper()
	if l, e := access.Decode(b); e != want || len(l) > 0 {
		t.Errorf("Decode of %x: %v and %d, not %d", b, l, e, want)
	}
}

func TestErrorsOfDecode(t *testing.T) {
	for _, b := range [][]byte{
		{0x80, 0},                        // no value
		object(1),                        // no condition
		object(0, 1),                     // no operations
		{0x81, 2, 1, 1},                  // another tag
		{0xa0, 0},                        // a constructed one
		{0x80, 2, 1, 1, 0x82, 2, 1, 1},   // another tag after a rule
		object(1, 8),                     // an unknown kind
		object(1, 255),                   //
		object(1, 1, 0),                  // more bytes than the condition has
		object(1, 6, 1, 1, 1),            //
		object(1, 2),                     // no number
		object(1, 2, 0), object(1, 2, 9), // wrong numbers
		object(1, 4, 6), object(1, 5, 4), //
		object(1, 3, 9), object(1, 5, 0), //
		object(1, 6), object(1, 7), // no number of kids
		object(1, 6, 0), object(1, 7, 0), // no kids
		object(1, 6, 2, 1), object(1, 7, 1), // fewer kids than that
		object(1, 6, 255, 1, 1),        //
		object(1, 6, 2, 7, 1, 1),       //
		object(1, 6, 2, 7, 2, 1, 1),    //
		object(1, 7, 1, 2, 9),          // a kid that is not valid
		bytes.Repeat(object(1, 1), 9),  // too many rules
		object(1, bytesOf(long[0])...), // a condition that is too long
		object(1, bytesOf(long[1])...),
		append([]byte{0x80, 0x82, 0x0f, 0xf0, 1}, append(bytes.Repeat([]byte{6, 1}, 0xff0/2-1), 1)...), // nested as deeply as there is room for
	} {
		expectError(t, b, api.ErrForm)
	}
	expectError(t, []byte{0x80}, api.ErrShort)
	expectError(t, []byte{0x80, 3, 1, 1}, api.ErrShort)
	expectError(t, []byte{0x81, 3, 1, 1}, api.ErrShort)
	expectError(t, []byte{0x81, 2, 1, 1, 0x80, 3, 1, 1}, api.ErrShort) // the errors of tlv.Decode come first
	expectError(t, []byte{0x80, 0x81, 2, 1, 1}, api.ErrForm)           // a longer length than necessary
	expectError(t, []byte{0}, api.ErrForm)
	expectError(t, make([]byte, 4097), api.ErrLong)
}

// TestDecodeOfShortConditions tries all short strings of small bytes: those that are encodings, and only those, are decoded.
func TestDecodeOfShortConditions(t *testing.T) {
	var known []api.Cond // whose encodings have at most 5 bytes
	var add func(c api.Cond)
	add = func(c api.Cond) {
		if len(bytesOf(c)) <= 5 {
			known = append(known, c)
		}
	}
	for op := range 6 {
		for n := range 10 {
			if c := (api.Cond{Op: op, N: n}); validAlone(c) {
				add(c)
			}
		}
	}
	for range 2 { // first kids without kids, then those with one level more
		for _, a := range slices.Clone(known) {
			add(and(a))
			add(or(a))
			for _, b := range known[:32] {
				add(and(a, b))
				add(or(a, b))
			}
		}
	}
	for _, op := range []int{api.CondAnd, api.CondOr} {
		for n := range 8 {
			add(api.Cond{Op: op, Kids: []api.Cond{{Op: n & 1}, {Op: n >> 1 & 1}, {Op: n >> 2 & 1}}})
		}
	}
	conds := map[string]api.Cond{}
	for _, c := range known {
		conds[string(bytesOf(c))] = c
	}
	found := map[string]bool{}
	var try func(b []byte)
	try = func(b []byte) {
		l, e := access.Decode(object(1, b...))
		want, ok := conds[string(b)]
		if ok != (e == api.OK) || ok && (len(l) != 1 || l[0].Ops != 1 || !equal(l[0].Cond, want)) || !ok && e != api.ErrForm {
			t.Fatalf("%x: %v and %d, %v", b, l, e, ok)
		}
		if ok {
			found[string(b)] = true
		}
		if len(b) < 5 {
			for x := range byte(10) {
				try(append(slices.Clip(b), x))
			}
		}
	}
	try(nil)
	if len(found) != len(conds) {
		t.Error(len(found), "of", len(conds))
	}
}

// TestDecodeOfDamagedRules changes encodings in random ways: what can still be decoded is the encoding of what it is decoded to.
func TestDecodeOfDamagedRules(t *testing.T) {
	r := rand.New(rand.NewPCG(14, 5))
	decoded := 0
	for range 50000 {
		b, _ := access.Encode(randomRules(r))
		b = append(b, 0x80)
		for range 1 + r.IntN(2) {
			i := r.IntN(len(b))
			switch r.IntN(4) {
			case 0:
				b[i] = byte(r.IntN(256))
			case 1:
				b[i] = byte(r.IntN(10))
			case 2:
				b = slices.Insert(b, i, byte(r.IntN(10)))
			default:
				b = slices.Delete(b, i, min(len(b)-1, i+1+r.IntN(3)))
			}
		}
		if r.IntN(2) == 0 {
			b = b[:len(b)-1]
		}
		before := slices.Clone(b)
		l, e := access.Decode(b)
		if !bytes.Equal(b, before) {
			t.Fatal("the argument was changed")
		}
		if e != api.OK {
			continue
		}
		decoded++
		if again, f := access.Encode(l); f != api.OK || !bytes.Equal(again, b) {
			t.Fatalf("%x is decoded to %v, whose encoding is %x, %d", b, l, again, f)
		}
	}
	if decoded < 1000 {
		t.Error(decoded)
	}
}

// P14.5

func rules(conds ...api.Cond) []api.Rule {
	var l []api.Rule
	for i, c := range conds {
		l = append(l, api.Rule{Ops: i, Cond: c})
	}
	return l
}

func TestSame(t *testing.T) {
	all := slices.Concat(samples, invalid, long)
	for i, a := range all {
		for k, b := range all {
			if access.Same(rules(a), rules(b)) != (i == k || equal(a, b)) {
				t.Error(a, b)
			}
		}
	}
	good := rules(always, pin(1), or(pin(1), key(2)))
	if !access.Same(nil, []api.Rule{}) || access.Same(nil, good) || access.Same(good[:2], good) || access.Same(good, good[:2]) || !access.Same(good, slices.Clone(good)) {
		t.Error("the numbers of rules")
	}
	other := slices.Clone(good)
	other[2].Ops = -1
	if access.Same(good, other) || !access.Same(other, slices.Clone(other)) {
		t.Error("the operations")
	}
	if access.Same(rules(pin(1), pin(2)), rules(pin(2), pin(1))) || access.Same(rules(or(pin(1), pin(2))), rules(or(pin(2), pin(1)))) || access.Same(rules(and(always)), rules(always)) {
		t.Error("the order")
	}
	if !access.Same([]api.Rule{{Cond: api.Cond{Kids: []api.Cond{}}}}, []api.Rule{{}}) {
		t.Error("no kids are no kids")
	}
	if !access.Same(rules(nested(60000, pin(70))), rules(nested(60000, pin(70)))) || access.Same(rules(nested(60000, pin(70))), rules(nested(60000, pin(71)))) {
		t.Error("conditions that are nested deeply")
	}
	access.Same(rules(endless(1)), rules(endless(1))) // it only has to return
}

func TestSameOfRandomRules(t *testing.T) {
	r := rand.New(rand.NewPCG(14, 6))
	yes := 0
	for range 20000 {
		a, b := random(r, 1+r.IntN(3), 4, true), random(r, 1+r.IntN(3), 4, true)
		want := equal(a, b)
		if access.Same(rules(always, a), rules(always, b)) != want {
			t.Fatal(a, b, want)
		}
		if want {
			yes++
		}
	}
	if yes < 200 {
		t.Error(yes)
	}
}

// P14.6 and P14.9

// textOf returns the text of a condition that is valid.
func textOf(c api.Cond) string {
	names := []string{"never", "always", "pin ", "key ", "state ", "level ", "and(", "or("}
	s := names[c.Op]
	if c.N > 0 {
		s += strconv.Itoa(c.N)
	}
	for i, kid := range c.Kids {
		if i > 0 {
			s += ", "
		}
		s += textOf(kid)
	}
	if len(c.Kids) > 0 {
		s += ")"
	}
	return s
}

func TestText(t *testing.T) {
	for text, c := range map[string]api.Cond{
		"never": never, "always": always, "pin 8": pin(8), "key 1": key(1), "state 5": state(5), "level 51": level(0x33),
		"and(pin 1, or(key 2, state 3))": samples[16], "or(never)": or(never), "and(always, always, pin 2)": and(always, always, pin(2)),
	} {
		if access.Text(c) != text {
			t.Errorf("%q instead of %q", access.Text(c), text)
		}
	}
	for _, c := range slices.Concat(invalid, long) {
		if s := access.Text(c); s != "" {
			t.Error(c, s)
		}
	}
}

func TestTextsOfRandomConditions(t *testing.T) {
	r := rand.New(rand.NewPCG(14, 9))
	known := map[string]api.Cond{}
	again := 0
	for range 20000 {
		c := random(r, 1+r.IntN(16), 8, false)
		s := access.Text(c)
		if s != textOf(c) {
			t.Fatal(s, textOf(c))
		}
		if d, ok := known[s]; ok {
			again++
			if !access.Same(rules(c), rules(d)) {
				t.Fatal("two conditions with the text", s)
			}
		}
		known[s] = c
	}
	if again < 1000 {
		t.Error(again)
	}
}
