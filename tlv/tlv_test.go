package tlv_test

import (
	"bytes"
	"math"
	"strings"
	"testing"

	"smartcard/api"
	"smartcard/octets"
	"smartcard/tlv"
)

func leaf(tag int, value ...byte) api.TLV {
	return api.TLV{Tag: tag, Value: value}
}

func node(tag int, kids ...api.TLV) api.TLV {
	return api.TLV{Tag: tag, Kids: kids}
}

func list(objects ...api.TLV) []api.TLV {
	return objects
}

// filled returns an object of a primitive tag with a value of n bytes.
func filled(tag, n int) api.TLV {
	return leaf(tag, bytes.Repeat([]byte{0xa5}, n)...)
}

// within returns a list in a given number of constructed objects, one in the other.
func within(levels int, l []api.TLV) []api.TLV {
	for range levels {
		l = list(node(0x6f, l...))
	}
	return l
}

// equal compares lists independently of the package's own Same.
func equal(a, b []api.TLV) bool {
	if len(a) != len(b) {
		return false
	}
	for i := range a {
		if a[i].Tag != b[i].Tag || !bytes.Equal(a[i].Value, b[i].Value) || !equal(a[i].Kids, b[i].Kids) {
			return false
		}
	}
	return true
}

// raw returns the bytes that a text with spaces denotes.
func raw(text string) []byte {
	b, e := octets.Parse(strings.ReplaceAll(text, " ", ""))
	if e != api.OK {
		panic(text)
	}
	return b
}

// wanted returns whether a number is a tag, and a constructed one, after the definition.
func wanted(tag int) (valid, constructed bool) {
	first, second := tag, -1
	if tag >= 256 {
		first, second = tag/256, tag%256
	}
	if first < 1 || first > 255 || first%32 == 31 != (second >= 0) || second >= 0 && (second < 0x1f || second > 0x7f) {
		return false, false
	}
	return true, first/32%2 == 1
}

// P2.1

func TestTags(t *testing.T) {
	count := 0
	for tag := -70000; tag <= 140000; tag++ {
		valid, constructed := wanted(tag)
		if tlv.Valid(tag) != valid || tlv.Constructed(tag) != constructed {
			t.Fatalf("%x: %v %v", tag, tlv.Valid(tag), tlv.Constructed(tag))
		}
		if valid {
			count++
		}
	}
	if count != 255-8+8*97 {
		t.Error(count)
	}
}

func TestTagsExamples(t *testing.T) {
	for _, tag := range []int{1, 0x1e, 0x20, 0x6f, 0x80, 0x84, 0xfe, 0x1f1f, 0x1f7f, 0x3f1f, 0x9f70, 0xbf20, 0xff7f} {
		if !tlv.Valid(tag) {
			t.Errorf("%x is a tag", tag)
		}
	}
	for _, tag := range []int{0, -1, 0x1f, 0x3f, 0x9f, 0xff, 0x100, 0x1f00, 0x1f1e, 0x9f80, 0x9fff, 0x6f1f, 0x11f1f, 0x1009f70,
		0x1_0000_0084, math.MaxInt, math.MinInt, math.MinInt + 0x84} {
		if tlv.Valid(tag) || tlv.Constructed(tag) {
			t.Errorf("%x is no tag", tag)
		}
	}
	for tag, want := range map[int]bool{0x20: true, 0x6f: true, 0xe1: true, 0x3f1f: true, 0x7f49: true, 0xbf20: true, 0x84: false, 0xc0: false, 0x1f20: false, 0x5f20: false, 0x9f7f: false} {
		if tlv.Constructed(tag) != want {
			t.Errorf("%x", tag)
		}
	}
}

// P2.2

func TestEncode(t *testing.T) {
	for _, c := range []struct {
		l    []api.TLV
		want string
	}{
		{nil, ""},
		{list(leaf(0x84, 0xa0, 1)), "84 02 a001"},
		{list(leaf(0x84)), "84 00"},
		{list(node(0x6f, leaf(0x84, 0xa0, 1))), "6f 04 84 02 a001"},
		{list(node(0x6f)), "6f 00"},
		{list(leaf(0x9f70, 7), leaf(1), leaf(0x84, 0)), "9f70 01 07 01 00 84 01 00"},
		{list(node(0x7f49, node(0x20, leaf(0x5f2d, 1, 2)), leaf(0x86, 3)), leaf(0xfe&0xdf)), "7f49 0a 20 05 5f2d 02 0102 86 01 03 de 00"},
	} {
		b, e := tlv.Encode(c.l)
		if e != api.OK || !bytes.Equal(b, raw(c.want)) || tlv.Size(c.l) != len(b) {
			t.Errorf("%s: %x %v %d", c.want, b, e, tlv.Size(c.l))
		}
	}
}

func TestEncodeLengths(t *testing.T) {
	for n, field := range map[int]string{
		0: "00", 1: "01", 127: "7f", 128: "8180", 129: "8181", 255: "81ff", 256: "820100", 257: "820101", 258: "820102", 4092: "820ffc",
	} {
		b, e := tlv.Encode(list(filled(0x80, n)))
		if e != api.OK || !bytes.Equal(b, octets.Join(raw("80"+field), filled(0, n).Value)) || tlv.Size(list(filled(0x80, n))) != len(b) {
			t.Errorf("%d: %x %v", n, b, e)
		}
	}
}

func TestEncodeLengthsOfConstructed(t *testing.T) {
	for n, field := range map[int]string{125: "7f", 126: "8180", 252: "81ff", 253: "820100"} {
		inner, _ := tlv.Encode(list(filled(0x80, n)))
		l := list(node(0x6f, filled(0x80, n)))
		b, e := tlv.Encode(l)
		if e != api.OK || !bytes.Equal(b, octets.Join(raw("6f"+field), inner)) || tlv.Size(l) != len(b) {
			t.Errorf("%d: %x %v", n, b, e)
		}
	}
}

func TestEncodeLimit(t *testing.T) {
	for _, c := range []struct {
		l    []api.TLV
		size int
	}{
		{list(filled(0x80, 4092)), 4096},
		{list(filled(0x9f70, 4091)), 4096},
		{list(node(0x6f, filled(0x80, 4088))), 4096},
		{list(filled(0x80, 4090), leaf(0x81)), 4096},
		{make2048(), 4096},
		{list(filled(0x80, 4093)), 0},
		{list(filled(0x9f70, 4092)), 0},
		{list(node(0x6f, filled(0x80, 4089))), 0},
		{list(filled(0x80, 4091), leaf(0x81)), 0},
		{append(make2048(), leaf(0x80)), 0},
		{list(filled(0x80, 65536)), 0},
		{list(filled(0x80, 65536+5)), 0},
		{list(filled(0x80, 1<<24)), 0},
	} {
		b, e := tlv.Encode(c.l)
		if len(b) != c.size || tlv.Size(c.l) != c.size || c.size > 0 && e != api.OK || c.size == 0 && e != api.ErrLong {
			t.Error(len(b), e, tlv.Size(c.l), c.size)
		}
	}
}

// make2048 returns as many objects as an encoding can have.
func make2048() []api.TLV {
	var l []api.TLV
	for range 2048 {
		l = append(l, leaf(0x80))
	}
	return l
}

// invalid returns lists that are not valid.
func invalid() [][]api.TLV {
	all := [][]api.TLV{
		within(api.MaxNest, list(leaf(0x84))),
		within(api.MaxNest+1, nil),
		within(40, nil),
		list(node(0x6f, within(api.MaxNest-1, list(leaf(0x84)))...)),
		list(leaf(0x84), node(0x6f, leaf(0x84), node(0xe1, leaf(0x84), leaf(0)))),
	}
	for _, o := range list(leaf(0), leaf(-1), leaf(0x1f), leaf(0x9f80), leaf(0x9f1e), leaf(0x184), leaf(math.MaxInt), leaf(math.MinInt),
		leaf(0x6f, 1), leaf(0x7f49, 1), node(0x84, leaf(0x84)), node(0x9f70, leaf(0x84)), node(0x84, node(0x6f)),
		api.TLV{Tag: 0x6f, Value: []byte{1}, Kids: list(leaf(0x84))}, api.TLV{Tag: 0x84, Value: []byte{1}, Kids: list(leaf(0x84))}) {
		all = append(all, list(o), list(leaf(0x84), o), list(o, leaf(0x84)), list(node(0x6f, o)), within(api.MaxNest-1, list(o)))
	}
	return all
}

func TestEncodeRejectsWhatIsNotValid(t *testing.T) {
	for i, l := range invalid() {
		for _, l := range [][]api.TLV{l, append(list(filled(0x80, 5000)), l...), append(l[:len(l):len(l)], filled(0x80, 5000))} {
			if b, e := tlv.Encode(l); e != api.ErrArg || len(b) != 0 {
				t.Errorf("%d: %x %v", i, b, e)
			}
			if tlv.Size(l) != 0 || tlv.Text(l) != "" {
				t.Error(i, tlv.Size(l), tlv.Text(l))
			}
		}
	}
}

func TestEncodeDepth(t *testing.T) {
	deep := within(api.MaxNest-1, list(leaf(0x84, 9), node(0x6f)))
	b, e := tlv.Encode(deep)
	if e != api.OK || !bytes.Equal(b, raw("6f11 6f0f 6f0d 6f0b 6f09 6f07 6f05 840109 6f00")) || tlv.Size(deep) != len(b) {
		t.Errorf("%x %v", b, e)
	}
}

func TestEmptySlicesAreLikeNil(t *testing.T) {
	l := list(api.TLV{Tag: 0x6f, Value: []byte{}, Kids: []api.TLV{{Tag: 0x84, Value: []byte{}, Kids: []api.TLV{}}}})
	if b, e := tlv.Encode(l); e != api.OK || !bytes.Equal(b, raw("6f028400")) {
		t.Errorf("%x %v", b, e)
	}
	if !tlv.Same(l, list(node(0x6f, leaf(0x84)))) || tlv.Text(l) != "6f\n  84\n" {
		t.Error(tlv.Text(l))
	}
}

// P2.3

// decoding reads the objects of b from position at up to end, after the words of P2.3.
func decoding(b []byte, at, end, depth int) ([]api.TLV, api.Errno) {
	var l []api.TLV
	for at < end {
		if depth > 8 || b[at] == 0 {
			return nil, api.ErrForm
		}
		tag := int(b[at])
		at++
		if tag%32 == 31 {
			if at == end {
				return nil, api.ErrShort
			}
			if b[at] < 0x1f || b[at] > 0x7f {
				return nil, api.ErrForm
			}
			tag = tag*256 + int(b[at])
			at++
		}
		if at == end {
			return nil, api.ErrShort
		}
		n, follow := int(b[at]), 0
		at++
		if n == 0x80 || n > 0x82 {
			return nil, api.ErrForm
		}
		if n > 0x80 {
			follow = n - 0x80
			least := follow * 128
			if end-at < follow {
				return nil, api.ErrShort
			}
			for n = 0; follow > 0; follow-- {
				n = n*256 + int(b[at])
				at++
			}
			if n < least {
				return nil, api.ErrForm
			}
		}
		if end-at < n {
			return nil, api.ErrShort
		}
		o := leaf(tag, b[at:at+n]...)
		if _, constructed := wanted(tag); constructed {
			kids, e := decoding(b, at, at+n, depth+1)
			if e != api.OK {
				return nil, e
			}
			o = node(tag, kids...)
		}
		l = append(l, o)
		at += n
	}
	return l, api.OK
}

// agree compares Decode with decoding, and reports whether b was decoded.
func agree(t *testing.T, b []byte) bool {
	t.Helper()
	want, wantE := decoding(b, 0, len(b), 1)
	got, e := tlv.Decode(b)
	if e != wantE || !equal(got, want) {
		t.Fatalf("%x: %v %v, not %v %v", b, got, e, want, wantE)
	}
	if e != api.OK {
		return false
	}
	if back, e := tlv.Encode(got); e != api.OK || !bytes.Equal(back, b) {
		t.Fatalf("%x: encoded again: %x %v", b, back, e)
	}
	return true
}

func TestDecodeAllShortStrings(t *testing.T) {
	alphabet := []byte{0, 1, 2, 0x1f, 0x20, 0x3f, 0x7f, 0x80, 0x81, 0x82, 0x83, 0xff}
	var b []byte
	good := 0
	var grow func(n int)
	grow = func(n int) {
		if agree(t, b) {
			good++
		}
		for _, x := range alphabet {
			if n > 0 {
				b = append(b, x)
				grow(n - 1)
				b = b[:len(b)-1]
			}
		}
	}
	grow(5)
	if good == 0 {
		t.Error("nothing was decoded")
	}
}

func TestDecodeAllPairs(t *testing.T) {
	for x := range 256 {
		for y := range 256 {
			agree(t, []byte{byte(x), byte(y)})
			agree(t, []byte{byte(x), byte(y), 0})
			agree(t, []byte{0x6f, 2, byte(x), byte(y)})
		}
	}
}

// samples returns encodings of valid lists.
func samples() [][]byte {
	var all [][]byte
	for _, l := range validLists() {
		b, _ := tlv.Encode(l)
		all = append(all, b)
	}
	return all
}

func validLists() [][]api.TLV {
	return [][]api.TLV{
		nil,
		list(leaf(0x84, 0xa0, 1)),
		list(leaf(0x84), leaf(0x84), leaf(0x5f20, 1, 2, 3)),
		list(node(0x6f, leaf(0x84, 0xa0, 1), node(0xa5, leaf(0x9f70, 7), leaf(0x50)), leaf(0x80, 0)), leaf(0xc1, 0xff)),
		list(filled(0x80, 127), filled(0x80, 128), filled(0x80, 255), filled(0x80, 256)),
		list(node(0x6f, filled(0x80, 125)), node(0x6f, filled(0x80, 126)), node(0x7f49, filled(0x80, 252)), node(0x30, filled(0x80, 253))),
		within(api.MaxNest-1, list(leaf(0x84, 9), node(0x6f), leaf(0x84))),
		within(api.MaxNest, nil),
		make2048(),
		list(node(0xe1, filled(0x9f1f, 4000), leaf(0x84)), leaf(1, 0)),
	}
}

func TestDecodeDamagedEncodings(t *testing.T) {
	for _, b := range samples() {
		if !agree(t, b) {
			t.Fatalf("%x was not decoded", b)
		}
		for i := range min(len(b), 200) {
			agree(t, b[:i])
			agree(t, append(bytes.Clone(b[:i]), b[i+1:]...))
			for _, x := range []byte{0, 1, 0x1e, 0x1f, 0x20, 0x7f, 0x80, 0x81, 0x82, 0x83, 0xff, b[i] - 1, b[i] + 1, b[i] ^ 0x20} {
				c := bytes.Clone(b)
				c[i] = x
				agree(t, c)
			}
		}
	}
}

func TestDecode(t *testing.T) {
	for _, c := range []struct {
		text string
		want []api.TLV
	}{
		{"", nil},
		{"8402a001", list(leaf(0x84, 0xa0, 1))},
		{"8400", list(leaf(0x84))},
		{"6f00", list(node(0x6f))},
		{"6f048402a001", list(node(0x6f, leaf(0x84, 0xa0, 1)))},
		{"9f70 01 07 6f 00 84 00", list(leaf(0x9f70, 7), node(0x6f), leaf(0x84))},
		{"84 8180" + strings.Repeat("a5", 128), list(filled(0x84, 128))},
		{"84 820100" + strings.Repeat("a5", 256), list(filled(0x84, 256))},
		{"6f0e 6f0c 6f0a 6f08 6f06 6f04 6f02 6f00", within(api.MaxNest, nil)},
		{"1f1f00 1f7f00 ff1f00", list(leaf(0x1f1f), leaf(0x1f7f), node(0xff1f))},
	} {
		if l, e := tlv.Decode(raw(c.text)); e != api.OK || !equal(l, c.want) {
			t.Error(c.text, l, e)
		}
	}
}

func TestDecodeErrors(t *testing.T) {
	for text, want := range map[string]api.Errno{
		"00":                 api.ErrForm,
		"8400 00":            api.ErrForm,
		"6f0100":             api.ErrForm,
		"1f":                 api.ErrShort,
		"9f":                 api.ErrShort,
		"9f1e":               api.ErrForm,
		"9f80":               api.ErrForm,
		"9f1e8300":           api.ErrForm,
		"9f1f":               api.ErrShort,
		"84":                 api.ErrShort,
		"8480":               api.ErrForm,
		"8483":               api.ErrForm,
		"84ff":               api.ErrForm,
		"8481":               api.ErrShort,
		"8482":               api.ErrShort,
		"848201":             api.ErrShort,
		"84817f":             api.ErrForm, // although the value is missing, too
		"848102a001":         api.ErrForm,
		"848100":             api.ErrForm,
		"848180":             api.ErrShort,
		"848200ff":           api.ErrForm,
		"84820000":           api.ErrForm,
		"84820100":           api.ErrShort,
		"8403a001":           api.ErrShort,
		"8401":               api.ErrShort,
		"6f03840001":         api.ErrShort, // the last object of the value has no length
		"6f038402a0 01":      api.ErrShort, // the byte 01 does not belong to the value
		"6f0184 00":          api.ErrShort,
		"6f029f70 00":        api.ErrShort,
		"6f019f 70 00":       api.ErrShort,
		"6f028481 80":        api.ErrShort,
		"6f03840100 00":      api.ErrForm,
		"6f0500":             api.ErrShort, // the value is too short before its objects are read
		"6f03848000 8480":    api.ErrForm,
		"6f028401 00":        api.ErrShort, // the error within comes before the one behind
		"6f018400 9f":        api.ErrShort,
		"8480 9f":            api.ErrForm,
		"8405 00 00":         api.ErrShort,
		"6f8200058403a00100": api.ErrForm,

		"6f10 6f0e 6f0c 6f0a 6f08 6f06 6f04 6f02 8400": api.ErrForm,
		"6f10 6f0e 6f0c 6f0a 6f08 6f06 6f04 6f02 6f00": api.ErrForm,
		"6f0f 6f0d 6f0b 6f09 6f07 6f05 6f03 6f01 9f":   api.ErrForm, // too deep before it is too short
		"6f0e 6f0c 6f0a 6f08 6f06 6f04 6f02 6f01":      api.ErrShort,
	} {
		if l, e := tlv.Decode(raw(text)); e != want || len(l) != 0 {
			t.Error(text, l, e)
		}
	}
}

func TestDecodeLimit(t *testing.T) {
	longest, _ := tlv.Encode(list(filled(0x80, 4092)))
	if l, e := tlv.Decode(longest); e != api.OK || !equal(l, list(filled(0x80, 4092))) {
		t.Error(len(l), e)
	}
	for _, b := range [][]byte{append(bytes.Clone(longest), 0), make([]byte, 4097), append(bytes.Clone(longest), 0x84, 0)} {
		if l, e := tlv.Decode(b); e != api.ErrLong || len(l) != 0 {
			t.Error(len(l), e)
		}
	}
	if _, e := tlv.Decode(make([]byte, 4096)); e != api.ErrForm {
		t.Error(e)
	}
}

// P2.4

func TestFind(t *testing.T) {
	l := list(
		leaf(0x84, 1),
		node(0x6f, leaf(0x84, 2), node(0xa5, leaf(0x9f70, 3)), leaf(0x84, 4)),
		node(0x6f, leaf(0x85, 5), node(0xa5, leaf(0x86, 6))),
		leaf(0x85, 7),
	)
	for _, c := range []struct {
		path []int
		want api.TLV
	}{
		{[]int{0x84}, leaf(0x84, 1)},
		{[]int{0x85}, leaf(0x85, 7)},
		{[]int{0x6f}, l[1]},
		{[]int{0x6f, 0x84}, leaf(0x84, 2)},
		{[]int{0x6f, 0xa5}, node(0xa5, leaf(0x9f70, 3))},
		{[]int{0x6f, 0xa5, 0x9f70}, leaf(0x9f70, 3)},
	} {
		if got, ok := tlv.Find(l, c.path); !ok || !equal(list(got), list(c.want)) {
			t.Errorf("%x: %v %v", c.path, got, ok)
		}
	}
	for _, path := range [][]int{nil, {}, {0x86}, {0x6f, 0x85}, {0x6f, 0xa5, 0x86}, {0x84, 0x84}, {0x6f, 0xa5, 0x9f70, 1}, {0x6f, 0x6f}, {0x9f70}, {0}, {-1}} {
		if got, ok := tlv.Find(l, path); ok || !equal(list(got), list(api.TLV{})) {
			t.Errorf("%x: %v %v", path, got, ok)
		}
	}
	if _, ok := tlv.Find(nil, []int{0x84}); ok {
		t.Error("found in nothing")
	}
}

func TestFindWithinListsThatAreNotValid(t *testing.T) {
	l := list(api.TLV{Tag: 0x84, Value: []byte{1}, Kids: list(leaf(0, 2))}, leaf(-5, 3))
	for _, c := range []struct {
		path []int
		want api.TLV
	}{{[]int{0x84}, l[0]}, {[]int{0x84, 0}, leaf(0, 2)}, {[]int{-5}, leaf(-5, 3)}} {
		if got, ok := tlv.Find(l, c.path); !ok || !equal(list(got), list(c.want)) {
			t.Errorf("%x: %v %v", c.path, got, ok)
		}
	}
}

// P2.5

// distinct returns lists of which no two are the same.
func distinct() [][]api.TLV {
	return append(invalid(), nil,
		list(leaf(0x84)),
		list(leaf(0x85)),
		list(leaf(0x84, 0)),
		list(leaf(0x84, 1)),
		list(leaf(0x84, 1, 0)),
		list(leaf(0x84, 1, 1)),
		list(leaf(0x84), leaf(0x84)),
		list(leaf(0x84), leaf(0x85)),
		list(leaf(0x85), leaf(0x84)),
		list(node(0x6f)),
		list(node(0x6f), leaf(0x84)),
		list(node(0x6f, leaf(0x84))),
		list(node(0x6f, leaf(0x84, 1))),
		list(node(0x6f, leaf(0x84), leaf(0x84))),
		list(node(0x6f, node(0x6f))),
		list(node(0x6f, node(0x6f, leaf(0x84)))),
	)
}

func TestSame(t *testing.T) {
	a, b := distinct(), distinct()
	for i := range a {
		for j := range b {
			if got := tlv.Same(a[i], b[j]); got != equal(a[i], b[j]) {
				t.Error(a[i], b[j], got)
			}
		}
	}
	if !tlv.Same(nil, []api.TLV{}) || tlv.Same(nil, list(api.TLV{})) {
		t.Error("empty lists")
	}
}

func TestSameComparesKidsOfEachObject(t *testing.T) {
	a := list(node(0x6f, leaf(0x84, 1)), node(0x6f, leaf(0x84, 2)), node(0x6f, leaf(0x84, 3)))
	for i := range a {
		b := list(node(0x6f, leaf(0x84, 1)), node(0x6f, leaf(0x84, 2)), node(0x6f, leaf(0x84, 3)))
		b[i].Kids[0].Value[0]++
		if tlv.Same(a, b) || tlv.Same(b, a) {
			t.Error(i)
		}
	}
}

// deepest is the nesting up to which the document's bound promises anything.
const deepest = 1 << 16

func TestDeepNesting(t *testing.T) {
	a, b, c := within(deepest-1, list(leaf(0x84, 1))), within(deepest-1, list(leaf(0x84, 1))), within(deepest-1, list(leaf(0x84, 2)))
	if !tlv.Same(a, b) || tlv.Same(a, c) {
		t.Error("Same")
	}
	if got, ok := tlv.Find(a, []int{0x6f}); !ok || !equal(list(got), b) {
		t.Error("Find")
	}
	if _, e := tlv.Encode(a); e != api.ErrArg || tlv.Size(a) != 0 || tlv.Text(a) != "" {
		t.Error(e)
	}
}

// A list that contains itself has no end; the functions have one all the same.
func TestListsThatContainThemselves(t *testing.T) {
	l := list(node(0x6f), node(0x6f))
	l[0].Kids, l[1].Kids = l, l
	if _, e := tlv.Encode(l); e != api.ErrArg || tlv.Size(l) != 0 || tlv.Text(l) != "" {
		t.Error(e)
	}
	tlv.Same(l, l)
	tlv.Find(l, []int{0x6f, 0x6f})
	if _, ok := tlv.Find(l, []int{0x6f, 0x84}); ok {
		t.Error("found")
	}
}

// P2.6

func TestText(t *testing.T) {
	for _, c := range []struct {
		l    []api.TLV
		want string
	}{
		{nil, ""},
		{list(leaf(0x84)), "84\n"},
		{list(leaf(1, 0)), "01 00\n"},
		{list(node(0x6f, leaf(0x84, 0xa0, 1))), "6f\n  84 a001\n"},
		{list(node(0x6f)), "6f\n"},
		{list(leaf(0x9f70, 7), leaf(0xdf7f)), "9f70 07\ndf7f\n"},
		{list(leaf(0x5f20, 0xab, 0xcd), node(0x7f49, node(0xa5, leaf(0xc0, 0xff), leaf(0xc1)), leaf(0x86, 3)), leaf(2)),
			"5f20 abcd\n7f49\n  a5\n    c0 ff\n    c1\n  86 03\n02\n"},
		{within(7, list(leaf(0x84, 9))), "6f\n  6f\n    6f\n      6f\n        6f\n          6f\n            6f\n              84 09\n"},
		{list(filled(0x80, 4092)), "80 " + strings.Repeat("a5", 4092) + "\n"},
		{list(filled(0x80, 4093)), ""},
		{list(leaf(0x84), leaf(0)), ""},
		{within(8, list(leaf(0x84))), ""},
	} {
		if got := tlv.Text(c.l); got != c.want {
			t.Errorf("%q, not %q", got, c.want)
		}
	}
}

// P2.7

func TestRoundTrips(t *testing.T) {
	for _, l := range validLists() {
		b, e := tlv.Encode(l)
		if e != api.OK {
			t.Fatal(l, e)
		}
		m, e := tlv.Decode(b)
		if e != api.OK || !equal(l, m) || !tlv.Same(l, m) {
			t.Fatalf("%x: %v", b, e)
		}
		if c, e := tlv.Encode(m); e != api.OK || !bytes.Equal(b, c) {
			t.Fatalf("%x: %x %v", b, c, e)
		}
	}
}

// P2.8

func TestEncodingOfListsOneAfterTheOther(t *testing.T) {
	for _, l := range validLists() {
		for _, m := range validLists() {
			a, _ := tlv.Encode(l)
			b, _ := tlv.Encode(m)
			both := append(l[:len(l):len(l)], m...)
			c, e := tlv.Encode(both)
			if len(a)+len(b) > api.MaxTLV {
				if e != api.ErrLong || len(c) != 0 {
					t.Fatal(len(c), e)
				}
				continue
			}
			if e != api.OK || !bytes.Equal(c, octets.Join(a, b)) || tlv.Size(both) != tlv.Size(l)+tlv.Size(m) {
				t.Fatalf("%x %x: %x %v", a, b, c, e)
			}
		}
	}
}

// P2.9

func TestTextsTellListsApart(t *testing.T) {
	all := append(distinct(), validLists()...)
	for _, l := range all {
		for _, m := range all {
			a, b := tlv.Text(l), tlv.Text(m)
			if a != "" && b != "" && (a == b) != equal(l, m) {
				t.Fatalf("%q %q", a, b)
			}
		}
	}
}

// The rule 'Results': arguments are neither changed nor kept, and no two slices of a result share memory.

func TestDecodeReturnsNewMemory(t *testing.T) {
	whole := raw("6f0584010284 00 8403a0a1a2 eeee")
	before := bytes.Clone(whole)
	l, e := tlv.Decode(whole[:len(whole)-2])
	if e != api.OK || len(l) != 2 {
		t.Fatal(l, e)
	}
	a, b := l[0].Kids[0].Value, l[1].Value
	_ = append(a, 0x11, 0x22, 0x33, 0x44)
	_ = append(b, 0x11, 0x22, 0x33, 0x44)
	a[0], b[0] = 0x77, 0x78
	if !bytes.Equal(whole, before) || !bytes.Equal(a, []byte{0x77}) || !bytes.Equal(b, []byte{0x78, 0xa1, 0xa2}) {
		t.Errorf("%x %x %x", whole, a, b)
	}
}

func TestFindReturnsNewMemory(t *testing.T) {
	l := list(node(0x6f, leaf(0x84, 1), node(0xa5, leaf(0x85, 2))))
	got, _ := tlv.Find(l, []int{0x6f})
	got.Kids[0].Value[0] = 9
	got.Kids[1].Kids[0].Value[0] = 9
	got.Kids[1].Kids[0].Tag = 9
	got.Kids[0].Tag = 9
	if !equal(l, list(node(0x6f, leaf(0x84, 1), node(0xa5, leaf(0x85, 2))))) {
		t.Error(l)
	}
	shared := list(leaf(0x84, 1))
	got, _ = tlv.Find(list(node(0x6f, node(0xa5, shared...), node(0xa5, shared...))), []int{0x6f})
	got.Kids[0].Kids[0].Value[0] = 9
	if got.Kids[1].Kids[0].Value[0] != 1 {
		t.Error("parts of the result share memory")
	}
}

func TestEncodeReturnsNewMemory(t *testing.T) {
	value := []byte{1, 2, 3, 0xee, 0xee}
	l := list(leaf(0x84, value[:3]...), node(0x6f, leaf(0x85, value[:3]...)))
	l[0].Value = value[:3]
	b, _ := tlv.Encode(l)
	for i := range b[:cap(b)] {
		b[:cap(b)][i] = 0x77
	}
	if !bytes.Equal(value, []byte{1, 2, 3, 0xee, 0xee}) || !equal(l, list(leaf(0x84, 1, 2, 3), node(0x6f, leaf(0x85, 1, 2, 3)))) {
		t.Errorf("%x %v", value, l)
	}
}
