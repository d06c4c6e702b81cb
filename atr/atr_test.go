package atr_test

import (
	"bytes"
	"fmt"
	"math"
	"math/rand/v2"
	"slices"
	"strings"
	"testing"

	"smartcard/api"
	"smartcard/atr"
	"smartcard/octets"
)

// raw returns the bytes that a text with spaces denotes.
func raw(text string) []byte {
	b, e := octets.Parse(strings.ReplaceAll(text, " ", ""))
	if e != api.OK {
		panic(text)
	}
	return b
}

// offers are the lists of protocols that a valid answer to reset can have.
var offers = [][]int{{0}, {1}, {0, 1}}

// at returns the interface byte at a place.
func at(group, kind, value, protocol int) api.Interface {
	return api.Interface{Group: group, Kind: kind, Value: value, Protocol: protocol}
}

// answer returns an answer to reset with interface bytes.
func answer(protocols []int, all ...api.Interface) api.ATR {
	return api.ATR{Protocols: protocols, Bytes: all}
}

// with returns an answer to reset with historical bytes.
func with(a api.ATR, history ...byte) api.ATR {
	a.History = history
	return a
}

// inverse returns an answer to reset in the inverse convention.
func inverse(a api.ATR) api.ATR {
	a.Inverse = true
	return a
}

// byGroup returns the interface bytes of each group.
func byGroup(a api.ATR) map[int][]api.Interface {
	groups := map[int][]api.Interface{}
	for _, x := range a.Bytes {
		groups[x.Group] = append(groups[x.Group], x)
	}
	return groups
}

// equal compares answers to reset independently of the package's own Same.
func equal(a, b api.ATR) bool {
	if a.Inverse != b.Inverse || string(a.History) != string(b.History) || len(a.Bytes) != len(b.Bytes) || len(a.Protocols) != len(b.Protocols) {
		return false
	}
	for i, x := range a.Bytes {
		if y := b.Bytes[i]; x.Group != y.Group || x.Kind != y.Kind || x.Value != y.Value || x.Protocol != y.Protocol {
			return false
		}
	}
	for i, x := range a.Protocols {
		if x != b.Protocols[i] {
			return false
		}
	}
	return true
}

// show returns the beginning of what a failed test shows of an answer to reset.
func show(a api.ATR) string {
	text := fmt.Sprintf("%+v", a)
	return text[:min(len(text), 300)]
}

// isZero reports whether an answer to reset is the zero value.
func isZero(a api.ATR) bool { return equal(a, api.ATR{}) }

// valid is the definition of a valid answer to reset, point by point.
func valid(a api.ATR) bool {
	if !slices.ContainsFunc(offers, func(o []int) bool { return slices.Equal(o, a.Protocols) }) {
		return false
	}
	for i, x := range a.Bytes {
		if x.Group < 1 || x.Kind < 0 || x.Kind > 2 || x.Value < 0 || x.Value > 255 {
			return false
		}
		for _, y := range a.Bytes[:i] {
			if y.Group > x.Group || y.Group == x.Group && y.Kind >= x.Kind {
				return false
			}
		}
	}
	groups := byGroup(a)
	for n, members := range groups {
		for _, x := range members {
			switch {
			case n == 1 && x.Protocol != 0, n == 2 && x.Protocol != a.Protocols[0]:
				return false
			case n >= 3 && (!slices.Contains(a.Protocols, x.Protocol) || x.Protocol != members[0].Protocol):
				return false
			case n == 3 && x.Protocol < a.Protocols[0]:
				return false
			case n >= 4 && (len(groups[n-1]) == 0 || x.Protocol < groups[n-1][0].Protocol):
				return false
			}
		}
	}
	return len(a.History) <= 15
}

// lrc returns the exclusive or of bytes.
func lrc(b []byte) byte {
	n := byte(0)
	for _, x := range b {
		n ^= x
	}
	return n
}

// summed returns bytes with their exclusive or.
func summed(b ...byte) []byte { return append(bytes.Clone(b), lrc(b)) }

// encoded is the definition of the encoding of a valid answer to reset.
func encoded(a api.ATR) []byte {
	groups := byGroup(a)
	last, second := 1, false
	if a.Protocols[0] == 1 {
		last = 2
	}
	for _, x := range a.Bytes {
		last = max(last, x.Group)
		second = second || x.Group >= 3 && x.Protocol == 1
	}
	if len(a.Protocols) == 2 && !second {
		last = max(last+1, 3)
	}
	presence := func(n int) byte {
		bits := byte(0)
		for _, x := range groups[n] {
			bits += []byte{0x10, 0x20, 0x40}[x.Kind]
		}
		if n < last {
			bits += 0x80
		}
		return bits
	}
	protocol := func(n int) byte {
		switch {
		case n == 2:
			return byte(a.Protocols[0])
		case len(groups[n]) == 0:
			return 1
		}
		return byte(groups[n][0].Protocol)
	}
	b := []byte{presence(1) + byte(len(a.History))}
	for n := 1; n <= last; n++ {
		for _, x := range groups[n] {
			b = append(b, byte(x.Value))
		}
		if n < last {
			b = append(b, presence(n+1)+protocol(n+1))
		}
	}
	b = append(b, a.History...)
	if slices.Contains(a.Protocols, 1) {
		b = summed(b...)
	}
	if a.Inverse {
		return append([]byte{0x3f}, b...)
	}
	return append([]byte{0x3b}, b...)
}

// decoded is the definition of decoding: the errors in their order, and then a search for the answer to reset that has the encoding.
func decoded(b []byte) (api.ATR, api.Errno) {
	switch {
	case len(b) > 33:
		return api.ATR{}, api.ErrLong
	case len(b) == 0:
		return api.ATR{}, api.ErrShort
	case b[0] != 0x3b && b[0] != 0x3f:
		return api.ATR{}, api.ErrForm
	case len(b) == 1:
		return api.ATR{}, api.ErrShort
	}
	a := api.ATR{Inverse: b[0] == 0x3f}
	check, i, head, protocol := false, 2, b[1], 0
	for group := 1; head != 0; group++ {
		next := byte(0)
		for kind := range 4 {
			if head>>(4+kind)&1 == 0 {
				continue
			}
			if i == len(b) {
				return api.ATR{}, api.ErrShort
			}
			if kind < 3 {
				a.Bytes = append(a.Bytes, at(group, kind, int(b[i]), protocol))
			} else {
				next = b[i]
				check = check || next&15 != 0
			}
			i++
		}
		head, protocol = next, int(next&15)
		if next&0xf0 == 0 {
			break
		}
	}
	size := int(b[1] & 15)
	if len(b)-i < size {
		return api.ATR{}, api.ErrShort
	}
	a.History = b[i : i+size]
	if check && len(b) == i+size {
		return api.ATR{}, api.ErrShort
	}
	if check && lrc(b[1:i+size]) != b[i+size] {
		return api.ATR{}, api.ErrSum
	}
	for _, a.Protocols = range offers {
		if valid(a) && bytes.Equal(encoded(a), b) {
			return a, api.OK
		}
	}
	return api.ATR{}, api.ErrForm
}

// samples returns valid answers to reset: all that have up to three interface bytes in groups up to 5, with several values and histories.
func samples() []api.ATR {
	var all []api.ATR
	values := []int{0, 1, 2, 0x10, 0x20, 0x7f, 0x80, 0xfe, 0xff}
	var extend func(a api.ATR, left int)
	extend = func(a api.ATR, left int) {
		if !valid(a) {
			return
		}
		a.Inverse = len(all)%3 == 0
		a.History = bytes.Repeat([]byte{byte(len(all))}, len(all)%16)
		all = append(all, a)
		if left == 0 {
			return
		}
		for group := 1; group <= 5; group++ {
			for kind := range 3 {
				for protocol := range 2 {
					b := a
					b.Bytes = append(slices.Clone(a.Bytes), at(group, kind, values[len(all)%len(values)], protocol))
					extend(b, left-1)
				}
			}
		}
	}
	for _, o := range offers {
		extend(answer(o), 3)
	}
	return all
}

// full returns an answer to reset with as many interface bytes as are asked for, in groups that are as full as possible, and 15 historical bytes.
func full(offer []int, elements int) api.ATR {
	a := api.ATR{Protocols: offer, History: bytes.Repeat([]byte{0xa5}, 15)}
	for i := range elements {
		x := at(i/3+1, i%3, i%256, offer[0])
		if x.Group == 1 {
			x.Protocol = 0
		}
		a.Bytes = append(a.Bytes, x)
	}
	return a
}

// wrong are numbers that are neither 0 nor 1.
var wrong = []int{-1, 2, 3, 15, 16, 255, 256, 257, 1 << 32, 1<<32 + 1, math.MaxInt, math.MinInt, math.MinInt + 1}

// mistakes returns answers to reset that are not valid.
func mistakes() []api.ATR {
	all := []api.ATR{
		{},
		answer([]int{}),
		answer([]int{1, 0}),
		answer([]int{0, 0}),
		answer([]int{1, 1}),
		answer([]int{0, 1, 1}),
		answer([]int{0, 1, 0}),
		answer([]int{0, 1, 2}),
		with(answer([]int{0}), make([]byte, 16)...),
		with(answer([]int{1}), make([]byte, 255)...),
		with(answer([]int{0, 1}), make([]byte, 16)...),
		with(answer([]int{0}), make([]byte, 70000)...),
		// not in order, or twice at one place
		answer([]int{0}, at(1, 1, 0, 0), at(1, 0, 0, 0)),
		answer([]int{0}, at(1, 2, 0, 0), at(1, 1, 0, 0)),
		answer([]int{0}, at(1, 0, 0, 0), at(1, 0, 0, 0)),
		answer([]int{0}, at(1, 0, 0, 0), at(1, 0, 1, 0)),
		answer([]int{0}, at(2, 0, 0, 0), at(1, 1, 0, 0)),
		answer([]int{0}, at(3, 0, 0, 0), at(2, 0, 0, 0)),
		answer([]int{0}, at(3, 0, 0, 0), at(4, 0, 0, 0), at(3, 1, 0, 0)),
		// a protocol that the group cannot have
		answer([]int{1}, at(1, 0, 0, 1)),
		answer([]int{0, 1}, at(1, 0, 0, 1)),
		answer([]int{1}, at(2, 0, 0, 0)),
		answer([]int{0}, at(2, 0, 0, 1)),
		answer([]int{0, 1}, at(2, 0, 0, 1)),
		answer([]int{0}, at(3, 0, 0, 1)),
		answer([]int{1}, at(3, 0, 0, 0)),
		answer([]int{0, 1}, at(3, 0, 0, 0), at(3, 1, 0, 1)),
		answer([]int{0, 1}, at(3, 0, 0, 1), at(3, 1, 0, 0)),
		answer([]int{0, 1}, at(3, 0, 0, 1), at(4, 1, 0, 0)),
		answer([]int{0, 1}, at(3, 0, 0, 0), at(4, 0, 0, 1), at(5, 0, 0, 0)),
		answer([]int{0, 1}, at(3, 0, 0, 0), at(4, 0, 0, 0), at(4, 2, 0, 1)),
		// a group without one before it
		answer([]int{0}, at(4, 0, 0, 0)),
		answer([]int{1}, at(4, 0, 0, 1)),
		answer([]int{0, 1}, at(2, 0, 0, 0), at(4, 0, 0, 1)),
		answer([]int{0, 1}, at(3, 0, 0, 0), at(5, 0, 0, 1)),
		answer([]int{0}, at(3, 0, 0, 0), at(4, 0, 0, 0), at(6, 0, 0, 0)),
		answer([]int{0}, at(math.MaxInt, 0, 0, 0)),
		answer([]int{0}, at(3, 0, 0, 0), at(math.MaxInt, 0, 0, 0)),
		answer([]int{0, 1}, at(math.MaxInt, 0, 0, 1), at(math.MaxInt, 1, 0, 1)),
		answer([]int{1}, at(math.MaxInt, 2, 0, 1), at(math.MinInt, 0, 0, 1)),
	}
	for _, n := range []int{0, -1, -2, -256, math.MinInt, math.MinInt + 1} {
		all = append(all, answer([]int{0}, at(n, 0, 0, 0)), answer([]int{1}, at(n, 0, 0, 1)))
	}
	for _, n := range []int{-1, 3, 4, 5, 255, 256, 1 << 32, math.MaxInt, math.MinInt} {
		all = append(all, answer([]int{0}, at(1, n, 0, 0)), answer([]int{1}, at(2, 0, 0, 1), at(2, n, 0, 1)), answer([]int{0, 1}, at(3, n, 0, 1)))
	}
	for _, n := range []int{-1, 256, 257, 511, 1 << 32, math.MaxInt, math.MinInt} {
		all = append(all, answer([]int{0}, at(1, 0, n, 0)), answer([]int{1}, at(2, 1, n, 1)), answer([]int{0, 1}, at(3, 2, n, 1)))
	}
	for _, n := range wrong {
		all = append(all, answer([]int{n}), answer([]int{0, n}), answer([]int{n, 1}), answer([]int{n, n}), answer([]int{0, 1, n}),
			answer([]int{n}, at(3, 0, 0, n)), answer([]int{0}, at(1, 0, 0, n)), answer([]int{1}, at(2, 0, 0, n)), answer([]int{0, 1}, at(3, 0, 0, n)),
			answer([]int{0, 1}, at(3, 0, 0, 0), at(4, 0, 0, n)), answer([]int{0, 1}, at(3, 0, 0, 1), at(3, 1, 0, n)))
	}
	return all
}

// tooLong returns answers to reset that are valid, but whose encoding has more than 33 bytes.
func tooLong() []api.ATR {
	all := []api.ATR{full([]int{0}, 13), full([]int{1}, 13), full([]int{0, 1}, 12), full([]int{0}, 14), full([]int{1}, 14), full([]int{0}, 500), full([]int{1}, 500)}
	for i := range 5 {
		all = append(all, inverse(all[i]))
	}
	return all
}

// P5.1

func TestCheck(t *testing.T) {
	for _, a := range samples() {
		if e := atr.Check(a); e != api.OK {
			t.Fatal(show(a), e)
		}
	}
	for _, a := range mistakes() {
		if valid(a) {
			t.Fatal("the test is wrong", show(a))
		}
		if e := atr.Check(a); e != api.ErrArg {
			t.Error(show(a), e)
		}
		a.Bytes = append(full([]int{0}, 20).Bytes, a.Bytes...)
		if e := atr.Check(a); !valid(a) && e != api.ErrArg {
			t.Error("ErrArg comes first", show(a), e)
		}
	}
	for _, a := range tooLong() {
		if !valid(a) || len(encoded(a)) < 34 {
			t.Fatal("the test is wrong", show(a))
		}
		if e := atr.Check(a); e != api.ErrLong {
			t.Error(show(a), e)
		}
	}
}

func TestCheckOfAllShortLists(t *testing.T) {
	var elements []api.Interface
	for group := range 6 {
		for kind := range 3 {
			elements = append(elements, at(group, kind, 0, 0), at(group, kind, 0, 1))
		}
	}
	n, right := 0, 0
	for _, o := range append(offers, nil, []int{1, 0}) {
		for _, x := range elements {
			for _, y := range elements {
				for _, z := range elements {
					a := answer(o, x, y, z)
					want := api.ErrArg
					if valid(a) {
						want = api.OK
						right++
					}
					n++
					if e := atr.Check(a); e != want {
						t.Fatal(show(a), e)
					}
				}
			}
		}
	}
	if n != 5*36*36*36 || right < 100 {
		t.Error(n, right)
	}
}

// example is an answer to reset with its encoding.
type example struct {
	text string
	a    api.ATR
}

// examples are encodings that follow from the definition by hand.
func examples() []example {
	return []example{
		{"3b 00", answer([]int{0})},
		{"3f 00", inverse(answer([]int{0}))},
		{"3b 02 14 50", with(answer([]int{0}), 0x14, 0x50)},
		{"3b 10 96", answer([]int{0}, at(1, 0, 0x96, 0))},
		{"3b 20 96", answer([]int{0}, at(1, 1, 0x96, 0))},
		{"3b 40 96", answer([]int{0}, at(1, 2, 0x96, 0))},
		{"3b 70 01 02 03", answer([]int{0}, at(1, 0, 1, 0), at(1, 1, 2, 0), at(1, 2, 3, 0))},
		{"3b 80 40 0a", answer([]int{0}, at(2, 2, 0x0a, 0))},
		{"3b 80 80 40 0a", answer([]int{0}, at(3, 2, 0x0a, 0))},
		{"3b 80 01 81", answer([]int{1})},
		{"3b 83 01 41 42 43 c2", with(answer([]int{1}), 0x41, 0x42, 0x43)},
		{"3b 80 41 0a cb", answer([]int{1}, at(2, 2, 0x0a, 1))},
		{"3b 80 81 11 fe ee", answer([]int{1}, at(3, 0, 0xfe, 1))},
		{"3b 91 95 81 b1 fe 5d 11 00 07 81", with(answer([]int{1}, at(1, 0, 0x95, 0), at(3, 0, 0xfe, 1), at(3, 1, 0x5d, 1), at(4, 0, 0, 1)), 7)},
		{"3b 80 80 01 01", answer([]int{0, 1})},
		{"3f 81 80 01 55 55", inverse(with(answer([]int{0, 1}), 0x55))},
		{"3b 80 80 11 fe ef", answer([]int{0, 1}, at(3, 0, 0xfe, 1))},
		{"3b 80 80 90 05 01 94", answer([]int{0, 1}, at(3, 0, 5, 0))},
		{"3b 80 80 90 05 11 07 83", answer([]int{0, 1}, at(3, 0, 5, 0), at(4, 0, 7, 1))},
		{"3b f0 11 22 33 90 44 01 25", answer([]int{0, 1}, at(1, 0, 0x11, 0), at(1, 1, 0x22, 0), at(1, 2, 0x33, 0), at(2, 0, 0x44, 0))},
	}
}

func TestEncode(t *testing.T) {
	for _, x := range examples() {
		if b, e := atr.Encode(x.a); e != api.OK || !bytes.Equal(b, raw(x.text)) {
			t.Error(x.text, octets.Hex(b), e)
		}
	}
	for _, a := range samples() {
		if b, e := atr.Encode(a); e != api.OK || !bytes.Equal(b, encoded(a)) {
			t.Fatal(show(a), octets.Hex(b), e)
		}
	}
}

func TestEncodeOfTheGreatestLength(t *testing.T) {
	for _, a := range []api.ATR{full([]int{0}, 12), full([]int{1}, 12), full([]int{0, 1}, 11)} {
		b, e := atr.Encode(a)
		if e != api.OK || !bytes.Equal(b, encoded(a)) || len(b) < 32 {
			t.Error(show(a), octets.Hex(b), e)
		}
	}
	longest := full([]int{0}, 11)
	longest.Bytes = append(longest.Bytes, at(5, 0, 0, 0))
	if b, e := atr.Encode(longest); e != api.OK || len(b) != 33 || !bytes.Equal(b, encoded(longest)) {
		t.Error(show(longest), octets.Hex(b), e)
	}
	longest.Bytes = append(longest.Bytes, at(5, 1, 0, 0))
	if b, e := atr.Encode(longest); e != api.ErrLong || len(encoded(longest)) != 34 || len(b) != 0 {
		t.Error(show(longest), octets.Hex(b), e)
	}
}

func TestEncodeErrors(t *testing.T) {
	for _, a := range mistakes() {
		if b, e := atr.Encode(a); e != api.ErrArg || len(b) != 0 {
			t.Error(show(a), octets.Hex(b), e)
		}
	}
	for _, a := range tooLong() {
		if b, e := atr.Encode(a); e != api.ErrLong || len(b) != 0 {
			t.Error(show(a), octets.Hex(b), e)
		}
	}
}

// P5.2

func TestDecode(t *testing.T) {
	for _, x := range examples() {
		if a, e := atr.Decode(raw(x.text)); e != api.OK || !equal(a, x.a) {
			t.Error(x.text, a, e)
		}
	}
	for _, a := range samples() {
		if got, e := atr.Decode(encoded(a)); e != api.OK || !equal(got, a) {
			t.Fatal(show(a), show(got), e)
		}
	}
}

func TestDecodeErrors(t *testing.T) {
	for _, c := range []struct {
		want  api.Errno
		texts string
	}{
		{api.ErrLong, strings.Repeat("00", 34) + " 3b" + strings.Repeat("00", 33) + " 3b" + strings.Repeat("80", 33) + " 3b" + strings.Repeat("80", 1000)},
		{api.ErrForm, strings.Repeat("00", 33) + " 3b" + strings.Repeat("00", 32)},
		{api.ErrShort, "3b" + strings.Repeat("80", 32) + " 3b" + strings.Repeat("81", 32)},
		// the first byte is wrong
		{api.ErrForm, "00 3a 3c 3d 3e 40 7b bb ff 3a00 3e00 7b00 c000 ff80"},
		// an end before T0, before the bytes of a group, before the last historical byte
		{api.ErrShort, "3b 3f"},
		{api.ErrShort, "3b10 3b20 3b40 3b80 3bf0 3bf0010203 3b300a 3b8010 3b8011 3b8080 3b80f0010203 3b80f1010203 3b808111"},
		{api.ErrShort, "3b01 3b0200 3b0f0102030405060708090a0b0c0d0e 3b8110aa 3b811000 3b8101 3b820100 3f01"},
		// no check byte
		{api.ErrShort, "3b8001 3f8001 3b810100 3b808001 3b808111fe 3b800f 3b808002 3b8201aabb"},
		// a wrong check byte; in the third one the first byte counts, too
		{api.ErrSum, "3b800180 3b800100 3b8001ba 3b80010081 3b808111feef 3b800f00 3b810155d4 3b8080010001 3f800191"},
		// bytes that follow; in the last one a check byte, although only T=0 is offered
		{api.ErrForm, "3b0000 3b000000 3b01aaab 3b10aa00 3b80018100 3b8080010100 3b8001818181 3b8010aa3a"},
		// a last group without elements that need not be there
		{api.ErrForm, "3b8000 3f8000 3b808000 3b90aa00 3b80808000 3b80810100 3b8080810180"},
		// protocols that no valid answer to reset has, or not in this order
		{api.ErrForm, "3b800282 3b800f8f 3b80120597 3b8081100011 3b80820103 3b80809105100783 3b80809105120781 3b80800202"},
		// a group without elements before one that has some, or before the last one
		{api.ErrForm, "3b8080800181 3b80808010aa 3b80818111aa3b"},
	} {
		for _, text := range strings.Fields(c.texts) {
			if a, e := atr.Decode(raw(text)); e != c.want || !isZero(a) {
				t.Error(text, a, e)
			}
		}
	}
}

// same compares the package's Decode with the definition.
func same(t *testing.T, b []byte) {
	t.Helper()
	want, wantE := decoded(b)
	if a, e := atr.Decode(b); e != wantE || e == api.OK && !equal(a, want) || e != api.OK && !isZero(a) {
		t.Fatal(octets.Hex(b), a, e, wantE)
	}
}

func TestDecodeOfAllShortStrings(t *testing.T) {
	var extend func(b []byte)
	extend = func(b []byte) {
		same(t, b)
		if len(b) > 0 {
			same(t, append(bytes.Clone(b), lrc(b[1:])))
		}
		if len(b) == 6 {
			return
		}
		for _, x := range []byte{0, 1, 2, 0x10, 0x11, 0x80, 0x81, 0x91, 0xf0} {
			extend(append(bytes.Clone(b), x))
		}
	}
	extend(nil)
	extend([]byte{0x3b})
	for x := range 256 {
		same(t, []byte{byte(x)})
		same(t, []byte{byte(x), 0})
		for y := range 256 {
			same(t, []byte{0x3b, byte(x), byte(y)})
			same(t, []byte{0x3b, 0x80, byte(x), byte(y)})
			same(t, append([]byte{0x3b}, summed(0x80, byte(x), byte(y))...))
			same(t, append([]byte{0x3f}, summed(0x80, 0x80, byte(x), byte(y))...))
		}
	}
}

func TestDecodeOfDamagedAnswers(t *testing.T) {
	random := rand.New(rand.NewPCG(5, 2))
	all := samples()
	for _, n := range []int{8, 9, 10, 11, 12} {
		all = append(all, full([]int{0}, n), full([]int{1}, n-1), full([]int{0, 1}, n-1))
	}
	for _, a := range all {
		b := encoded(a)
		damaged := bytes.Clone(b)
		for range 3 {
			damaged[random.IntN(len(b))] = byte(random.IntN(256))
			same(t, damaged)
		}
		same(t, append([]byte{0x3b}, summed(damaged[1:len(b)-1]...)...))
		same(t, b[:random.IntN(len(b))])
		same(t, append(bytes.Clone(b), byte(random.IntN(256))))
		i := random.IntN(len(b))
		same(t, append(bytes.Clone(b[:i]), b[i+1:]...))
	}
}

// P5.3

func TestIFSAndSum(t *testing.T) {
	type row struct {
		a        api.ATR
		ifs, sum int
	}
	rows := []row{
		{answer([]int{0}), 32, api.SumLRC},
		{answer([]int{1}), 32, api.SumLRC},
		{answer([]int{0, 1}), 32, api.SumLRC},
		{inverse(with(answer([]int{0, 1}, at(3, 0, 7, 1), at(3, 2, 1, 1)), 1, 2)), 7, api.SumCRC},
		// groups before the third one, and those of T=0, do not count
		{answer([]int{1}, at(1, 0, 7, 0), at(1, 2, 1, 0)), 32, api.SumLRC},
		{answer([]int{1}, at(2, 0, 7, 1), at(2, 2, 1, 1)), 32, api.SumLRC},
		{answer([]int{0}, at(3, 0, 7, 0), at(3, 2, 1, 0)), 32, api.SumLRC},
		{answer([]int{0, 1}, at(3, 0, 7, 0), at(3, 2, 1, 0)), 32, api.SumLRC},
		{answer([]int{0, 1}, at(3, 0, 7, 0), at(3, 2, 1, 0), at(4, 0, 8, 1)), 8, api.SumLRC},
		{answer([]int{0, 1}, at(3, 0, 7, 0), at(3, 2, 0, 0), at(4, 2, 1, 1)), 32, api.SumCRC},
		{answer([]int{1}, at(1, 0, 1, 0), at(2, 0, 2, 1), at(3, 0, 3, 1)), 3, api.SumLRC},
		// the first one counts, whatever its value
		{answer([]int{1}, at(3, 0, 7, 1), at(4, 0, 8, 1)), 7, api.SumLRC},
		{answer([]int{1}, at(3, 0, 0, 1), at(4, 0, 8, 1)), 32, api.SumLRC},
		{answer([]int{1}, at(3, 0, 255, 1), at(4, 0, 8, 1)), 32, api.SumLRC},
		{answer([]int{1}, at(3, 2, 0, 1), at(4, 2, 1, 1)), 32, api.SumLRC},
		{answer([]int{1}, at(3, 2, 1, 1), at(4, 2, 0, 1)), 32, api.SumCRC},
		{answer([]int{1}, at(3, 1, 7, 1), at(4, 0, 8, 1), at(5, 2, 1, 1)), 8, api.SumCRC},
		// other kinds do not count
		{answer([]int{1}, at(3, 1, 7, 1)), 32, api.SumLRC},
		{answer([]int{1}, at(3, 0, 7, 1), at(3, 1, 1, 1)), 7, api.SumLRC},
		{answer([]int{1}, at(3, 1, 7, 1), at(3, 2, 1, 1)), 32, api.SumCRC},
	}
	for n := range 256 {
		r := row{answer([]int{1}, at(3, 0, n, 1), at(3, 2, n, 1)), n, n % 2}
		if n == 0 || n == 255 {
			r.ifs = 32
		}
		rows = append(rows, r)
	}
	for _, r := range rows {
		if ifs, sum := atr.IFS(r.a), atr.Sum(r.a); ifs != r.ifs || sum != r.sum || !valid(r.a) {
			t.Error(show(r.a), ifs, sum)
		}
	}
}

func TestIFSAndSumOfWhatCheckRejects(t *testing.T) {
	for _, a := range append(mistakes(), tooLong()...) {
		if ifs, sum := atr.IFS(a), atr.Sum(a); ifs != 0 || sum != 0 {
			t.Error(show(a), ifs, sum)
		}
		a.Bytes = append([]api.Interface{at(3, 0, 7, 1), at(3, 2, 1, 1)}, a.Bytes...)
		if ifs, sum := atr.IFS(a), atr.Sum(a); !valid(a) && (ifs != 0 || sum != 0) {
			t.Error(show(a), ifs, sum)
		}
	}
	long := answer([]int{1}, at(3, 0, 7, 1), at(3, 2, 1, 1))
	for group := 4; group < 14; group++ {
		long.Bytes = append(long.Bytes, at(group, 0, 7, 1), at(group, 2, 1, 1))
	}
	if ifs, sum := atr.IFS(long), atr.Sum(long); !valid(long) || ifs != 0 || sum != 0 {
		t.Error("ErrLong", ifs, sum)
	}
}

// P5.7

func TestSame(t *testing.T) {
	a := inverse(with(answer([]int{0, 1}, at(1, 0, 1, 0), at(3, 2, 3, 1)), 1, 2))
	changes := []func(a *api.ATR){
		func(a *api.ATR) { a.Inverse = false },
		func(a *api.ATR) { a.Bytes = nil },
		func(a *api.ATR) { a.Bytes = a.Bytes[:1] },
		func(a *api.ATR) { a.Bytes = append(a.Bytes, at(4, 0, 0, 1)) },
		func(a *api.ATR) { a.Bytes[0], a.Bytes[1] = a.Bytes[1], a.Bytes[0] },
		func(a *api.ATR) { a.Bytes[0].Group++ },
		func(a *api.ATR) { a.Bytes[0].Kind++ },
		func(a *api.ATR) { a.Bytes[1].Value += 256 },
		func(a *api.ATR) { a.Bytes[1].Protocol-- },
		func(a *api.ATR) { a.Protocols = nil },
		func(a *api.ATR) { a.Protocols = a.Protocols[:1] },
		func(a *api.ATR) { a.Protocols = append(a.Protocols, 0) },
		func(a *api.ATR) { a.Protocols[1] = 2 },
		func(a *api.ATR) { a.Protocols[0], a.Protocols[1] = 1, 0 },
		func(a *api.ATR) { a.History = nil },
		func(a *api.ATR) { a.History = a.History[:1] },
		func(a *api.ATR) { a.History = append(a.History, 0) },
		func(a *api.ATR) { a.History[1]++ },
	}
	all := []api.ATR{a, {}}
	for _, change := range changes {
		b := copied(a)
		change(&b)
		all = append(all, b)
	}
	for i, a := range all {
		for j, b := range all {
			if got := atr.Same(a, copied(b)); got != (i == j) || got != equal(a, b) {
				t.Error(show(a), show(b), got)
			}
		}
	}
	if !atr.Same(api.ATR{}, api.ATR{Bytes: []api.Interface{}, Protocols: []int{}, History: []byte{}}) || !atr.Same(api.ATR{History: []byte{}}, api.ATR{Protocols: []int{}}) {
		t.Error("nil and empty lists are equal")
	}
	for _, a := range append(mistakes(), tooLong()...) {
		if !atr.Same(a, copied(a)) || atr.Same(a, answer([]int{0})) || atr.Same(inverse(a), a) != a.Inverse {
			t.Error(show(a))
		}
	}
}

// copied returns an answer to reset in new memory.
func copied(a api.ATR) api.ATR {
	return api.ATR{Inverse: a.Inverse, Bytes: slices.Clone(a.Bytes), Protocols: slices.Clone(a.Protocols), History: bytes.Clone(a.History)}
}

// P5.8

func TestRoundTrip(t *testing.T) {
	random := rand.New(rand.NewPCG(5, 8))
	all := samples()
	for range 20000 {
		all = append(all, any(random))
	}
	decodable := 0
	for _, a := range all {
		b, e := atr.Encode(a)
		if e == api.ErrLong && len(encoded(a)) > 33 {
			continue
		}
		if e != api.OK {
			t.Fatal(show(a), e)
		}
		got, e := atr.Decode(b)
		if e != api.OK || !atr.Same(got, a) || !equal(got, a) {
			t.Fatal(show(a), show(got), e)
		}
		b[random.IntN(len(b))] ^= 1 << random.IntN(8)
		if got, e = atr.Decode(b); e != api.OK {
			continue
		}
		decodable++
		if again, e := atr.Encode(got); e != api.OK || !bytes.Equal(again, b) {
			t.Fatal(octets.Hex(b), show(got), octets.Hex(again), e)
		}
	}
	if decodable < 1000 {
		t.Error(decodable)
	}
}

// any returns a valid answer to reset, whose encoding may be too long.
func any(random *rand.Rand) api.ATR {
	a := api.ATR{Inverse: random.IntN(2) == 0, Protocols: slices.Clone(offers[random.IntN(3)]), History: make([]byte, random.IntN(16))}
	for i := range a.History {
		a.History[i] = byte(random.IntN(256))
	}
	protocol := a.Protocols[0]
	last := random.IntN(8)
	for group := 1; group <= last; group++ {
		if group >= 3 && len(a.Protocols) == 2 && random.IntN(3) == 0 {
			protocol = 1
		}
		kinds := random.IntN(8)
		if group >= 3 {
			kinds = 1 + random.IntN(7)
		}
		for kind := range 3 {
			if kinds>>kind&1 == 0 {
				continue
			}
			x := at(group, kind, random.IntN(256), protocol)
			if group == 1 {
				x.Protocol = 0
			}
			a.Bytes = append(a.Bytes, x)
		}
	}
	return a
}

// The rule 'Results': results are new memory, and arguments are neither changed nor kept.

func TestResultsAreNewMemory(t *testing.T) {
	a := with(answer([]int{0, 1}, at(1, 0, 1, 0), at(2, 2, 3, 0)), 1, 2, 3)
	kept := copied(a)
	first, _ := atr.Encode(a)
	for i := range first[:cap(first)] {
		first[:cap(first)][i] ^= 0xff
	}
	if !equal(a, kept) {
		t.Error("Encode shares memory with its argument")
	}
	if again, e := atr.Encode(a); e != api.OK || !bytes.Equal(again, encoded(a)) {
		t.Error("Encode keeps its result")
	}
	whole := append(encoded(a), 0xee, 0xee)
	b := whole[:len(whole)-2]
	got, e := atr.Decode(b)
	if e != api.OK || !equal(got, a) {
		t.Fatal(got, e)
	}
	got.Bytes[0].Value, got.Protocols[0], got.History[0] = 9, 9, 9
	_ = append(got.History, 9)
	if !bytes.Equal(whole, append(encoded(a), 0xee, 0xee)) {
		t.Error("Decode shares memory with its argument, or changes it")
	}
	got, _ = atr.Decode(b)
	for i := range b {
		b[i] ^= 0xff
	}
	if !equal(got, a) {
		t.Error("Decode keeps its argument")
	}
	if got, e := atr.Decode(encoded(a)); e != api.OK || !equal(got, a) {
		t.Error("Decode keeps its result")
	}
	atr.Check(a)
	atr.IFS(a)
	atr.Sum(a)
	atr.Same(a, a)
	if !equal(a, kept) {
		t.Error("an argument was changed")
	}
}

func TestRoomBehindArgumentsIsNotUsed(t *testing.T) {
	room := slices.Grow([]api.Interface{at(1, 0, 1, 0)}, 8)
	room[:2][1] = at(7, 7, 7, 7)
	history := append(make([]byte, 0, 20), 1)
	history[:20][1] = 0xee
	protocols := append(make([]int, 0, 4), 0)
	protocols[:4][1] = 1
	a := api.ATR{Protocols: protocols, Bytes: room, History: history}
	if b, e := atr.Encode(a); e != api.OK || octets.Hex(b) != "3b110101" {
		t.Error(octets.Hex(b), e)
	}
	if room[:2][1] != at(7, 7, 7, 7) || history[:20][1] != 0xee || protocols[:4][1] != 1 {
		t.Error("what is behind the length was changed")
	}
}
