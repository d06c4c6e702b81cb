package apdu_test

import (
	"bytes"
	"math"
	"strings"
	"testing"

	"smartcard/apdu"
	"smartcard/api"
	"smartcard/octets"
)

// raw returns the bytes that a text with spaces denotes.
func raw(text string) []byte {
	b, e := octets.Parse(strings.ReplaceAll(text, " ", ""))
	if e != api.OK {
		panic(text)
	}
	return b
}

// filled returns n bytes, of which neighbours differ.
func filled(n int) []byte {
	b := make([]byte, n)
	for i := range b {
		b[i] = byte(i + i>>8 + 1)
	}
	return b
}

func short(n, le int) api.Command {
	return api.Command{CLA: 0x80, INS: 0xe8, P1: 1, P2: 2, Data: filled(n), Le: le}
}

func long(n, le int) api.Command {
	c := short(n, le)
	c.Long = true
	return c
}

// with returns a command that was changed.
func with(c api.Command, change func(c *api.Command)) api.Command {
	c.Data = bytes.Clone(c.Data)
	change(&c)
	return c
}

// equal compares commands independently of the package's own Same.
func equal(a, b api.Command) bool {
	return a.CLA == b.CLA && a.INS == b.INS && a.P1 == b.P1 && a.P2 == b.P2 && string(a.Data) == string(b.Data) && a.Le == b.Le && a.Long == b.Long
}

// text returns what a failed test shows of a command.
func text(c api.Command) []any {
	return []any{c.CLA, c.INS, c.P1, c.P2, len(c.Data), c.Le, c.Long}
}

// isZero reports whether a command is the zero value.
func isZero(c api.Command) bool { return len(c.Data) == 0 && equal(c, api.Command{}) }

// caseOf is the definition of the case of a valid command.
func caseOf(c api.Command) int {
	n := 1
	if c.Le > 0 {
		n++
	}
	if len(c.Data) > 0 {
		n += 2
	}
	return n
}

// valid returns valid commands of all cases, with lengths at their limits.
func valid() []api.Command {
	var all []api.Command
	for _, n := range []int{0, 1, 2, 127, 254, 255} {
		for _, le := range []int{0, 1, 2, 255, 256} {
			all = append(all, short(n, le))
		}
	}
	for _, n := range []int{0, 1, 2, 255, 256, 257, 511, 512, 65534, 65535} {
		for _, le := range []int{0, 1, 255, 256, 257, 65535, 65536} {
			if n+le > 0 {
				all = append(all, long(n, le))
			}
		}
	}
	for _, x := range []int{0, 1, 0x7f, 0x80, 0xfe} {
		all = append(all, api.Command{CLA: x}, api.Command{INS: x}, api.Command{P1: x}, api.Command{P2: x})
	}
	return append(all, api.Command{CLA: 0xfe, INS: 0xff, P1: 0xff, P2: 0xff, Data: []byte{0}, Le: 1})
}

// mistake is a command with the error of Check for it.
type mistake struct {
	c api.Command
	e api.Errno
}

// mistakes returns commands that are not valid.
func mistakes() []mistake {
	var all []mistake
	for _, x := range []int{-1, 256, 257, 0x100e8, 1 << 32, math.MaxInt, math.MinInt, math.MinInt + 0x60} {
		for _, set := range []func(c *api.Command){
			func(c *api.Command) { c.CLA = x },
			func(c *api.Command) { c.INS = x },
			func(c *api.Command) { c.P1 = x },
			func(c *api.Command) { c.P2 = x },
		} {
			all = append(all, mistake{with(short(1, 1), set), api.ErrRange})
			all = append(all, mistake{with(api.Command{CLA: 255, INS: 0x60, P1: 1, P2: 1, Data: filled(256), Le: -1}, set), api.ErrRange})
		}
	}
	for x := range 16 {
		all = append(all, mistake{api.Command{INS: 0x60 + x}, api.ErrArg}, mistake{api.Command{INS: 0x90 + x, Data: filled(65536), Le: -1}, api.ErrArg})
	}
	for _, le := range []int{-1, math.MinInt, math.MaxInt, 65537} {
		all = append(all, mistake{short(1, le), api.ErrRange}, mistake{short(0, le), api.ErrRange}, mistake{long(1, le), api.ErrRange}, mistake{long(0, le), api.ErrRange},
			mistake{short(256, le), api.ErrLong}, mistake{long(65536, le), api.ErrLong})
	}
	return append(all,
		mistake{api.Command{CLA: 255}, api.ErrArg},
		mistake{api.Command{CLA: 255, Data: filled(256), Le: -1}, api.ErrArg},
		mistake{short(256, 0), api.ErrLong},
		mistake{short(256, 256), api.ErrLong},
		mistake{short(65535, 0), api.ErrLong},
		mistake{long(65536, 0), api.ErrLong},
		mistake{long(65537, 65536), api.ErrLong},
		mistake{short(0, 257), api.ErrRange},
		mistake{short(255, 257), api.ErrRange},
		mistake{short(0, 65536), api.ErrRange},
		mistake{long(0, 0), api.ErrForm},
		mistake{api.Command{Long: true}, api.ErrForm},
		mistake{api.Command{Long: true, Data: []byte{}}, api.ErrForm},
		mistake{api.Command{Long: true, CLA: 255}, api.ErrArg},
		mistake{api.Command{Long: true, P2: 256}, api.ErrRange},
	)
}

// P4.1

func TestCheckAndCase(t *testing.T) {
	for _, c := range valid() {
		if e := apdu.Check(c); e != api.OK {
			t.Error(text(c), e)
		}
		if got := apdu.Case(c); got != caseOf(c) {
			t.Error(text(c), got)
		}
	}
	for _, m := range mistakes() {
		if e := apdu.Check(m.c); e != m.e {
			t.Error(text(m.c), e, m.e)
		}
		if got := apdu.Case(m.c); got != 0 {
			t.Error(text(m.c), got)
		}
	}
}

func TestCases(t *testing.T) {
	for _, c := range []struct {
		c    api.Command
		want int
	}{
		{short(0, 0), 1}, {short(0, 256), 2}, {short(1, 0), 3}, {short(255, 1), 4},
		{long(0, 65536), 2}, {long(65535, 0), 3}, {long(1, 1), 4}, {long(0, 0), 0},
		{api.Command{}, 1}, {api.Command{Data: []byte{}}, 1},
	} {
		if got := apdu.Case(c.c); got != c.want {
			t.Error(text(c.c), got)
		}
	}
}

func TestCheckEveryByte(t *testing.T) {
	for x := range 256 {
		want := api.OK
		if x == 255 {
			want = api.ErrArg
		}
		if e := apdu.Check(api.Command{CLA: x}); e != want {
			t.Errorf("CLA %x: %v", x, e)
		}
		want = api.OK
		if x/16 == 6 || x/16 == 9 {
			want = api.ErrArg
		}
		if e := apdu.Check(api.Command{INS: x}); e != want {
			t.Errorf("INS %x: %v", x, e)
		}
		if e := apdu.Check(api.Command{P1: x, P2: 255 - x}); e != api.OK {
			t.Errorf("P1 %x: %v", x, e)
		}
	}
}

// P4.2

func TestEncode(t *testing.T) {
	for _, c := range []struct {
		c    api.Command
		want string
	}{
		{api.Command{CLA: 0, INS: 0xa4, P1: 4, P2: 0, Data: raw("a000"), Le: 256}, "00a40400 02 a000 00"},
		{api.Command{CLA: 0, INS: 0xa4, P1: 4, P2: 0, Data: raw("a000"), Le: 256, Long: true}, "00a40400 000002 a000 0100"},
		{api.Command{CLA: 0x80, INS: 0xf2, P1: 0x12, P2: 0x34}, "80f21234"},
		{api.Command{INS: 0xb0, Le: 1}, "00b00000 01"},
		{api.Command{INS: 0xb0, Le: 255}, "00b00000 ff"},
		{api.Command{INS: 0xb0, Le: 256}, "00b00000 00"},
		{api.Command{INS: 0xb0, Le: 1, Long: true}, "00b00000 00 0001"},
		{api.Command{INS: 0xb0, Le: 256, Long: true}, "00b00000 00 0100"},
		{api.Command{INS: 0xb0, Le: 65535, Long: true}, "00b00000 00 ffff"},
		{api.Command{INS: 0xb0, Le: 65536, Long: true}, "00b00000 00 0000"},
		{api.Command{INS: 0xd6, Data: raw("00")}, "00d60000 01 00"},
		{api.Command{INS: 0xd6, Data: raw("00"), Long: true}, "00d60000 000001 00"},
		{api.Command{INS: 0xd6, Data: raw("00"), Le: 1}, "00d60000 01 00 01"},
		{api.Command{INS: 0xd6, Data: raw("00"), Le: 65536, Long: true}, "00d60000 000001 00 0000"},
	} {
		if got, e := apdu.Encode(c.c); e != api.OK || !bytes.Equal(got, raw(c.want)) {
			t.Errorf("%s: %x %v", c.want, got, e)
		}
	}
}

func TestEncodeLengths(t *testing.T) {
	for _, c := range []struct {
		c          api.Command
		begin, end string
	}{
		{short(255, 0), "80e80102 ff", ""},
		{short(255, 256), "80e80102 ff", "00"},
		{long(255, 0), "80e80102 0000ff", ""},
		{long(256, 0), "80e80102 000100", ""},
		{long(65535, 65536), "80e80102 00ffff", "0000"},
		{long(65535, 0x1234), "80e80102 00ffff", "1234"},
	} {
		got, e := apdu.Encode(c.c)
		if e != api.OK || !bytes.Equal(got, octets.Join(raw(c.begin), c.c.Data, raw(c.end))) {
			t.Error(c.begin, c.end, len(got), e)
		}
	}
}

func TestEncodeReturnsTheErrorOfCheck(t *testing.T) {
	for _, m := range mistakes() {
		if b, e := apdu.Encode(m.c); e != m.e || len(b) != 0 {
			t.Error(text(m.c), len(b), e)
		}
	}
}

func TestDecode(t *testing.T) {
	for _, c := range []struct {
		text string
		want api.Command
	}{
		{"80f21234", api.Command{CLA: 0x80, INS: 0xf2, P1: 0x12, P2: 0x34}},
		{"00000000", api.Command{}},
		{"feffffff", api.Command{CLA: 254, INS: 255, P1: 255, P2: 255}},
		{"00b00000 00", api.Command{INS: 0xb0, Le: 256}},
		{"00b00000 01", api.Command{INS: 0xb0, Le: 1}},
		{"00b00000 ff", api.Command{INS: 0xb0, Le: 255}},
		{"00b00000 000000", api.Command{INS: 0xb0, Le: 65536, Long: true}},
		{"00b00000 000001", api.Command{INS: 0xb0, Le: 1, Long: true}},
		{"00b00000 000100", api.Command{INS: 0xb0, Le: 256, Long: true}},
		{"00d60000 01 00", api.Command{INS: 0xd6, Data: raw("00")}},
		{"00d60000 01 00 00", api.Command{INS: 0xd6, Data: raw("00"), Le: 256}},
		{"00a40400 02 a000 00", api.Command{INS: 0xa4, P1: 4, Data: raw("a000"), Le: 256}},
		{"00a40400 000002 a000", api.Command{INS: 0xa4, P1: 4, Data: raw("a000"), Long: true}},
		{"00a40400 000002 a000 0100", api.Command{INS: 0xa4, P1: 4, Data: raw("a000"), Le: 256, Long: true}},
		{"00a40400 000001 a0 0000", api.Command{INS: 0xa4, P1: 4, Data: raw("a0"), Le: 65536, Long: true}},
	} {
		if got, e := apdu.Decode(raw(c.text)); e != api.OK || !equal(got, c.want) {
			t.Error(c.text, got, e)
		}
	}
}

func TestDecodeErrors(t *testing.T) {
	for text, want := range map[string]api.Errno{
		"":                           api.ErrShort,
		"00":                         api.ErrShort,
		"00b000":                     api.ErrShort,
		"ff6000":                     api.ErrShort,
		"00b00000 0001":              api.ErrShort, // the body has 2 bytes
		"00b00000 0000":              api.ErrShort,
		"ff600000 00ff":              api.ErrShort, // before the error of Check
		"00b00000 02 01":             api.ErrShort,
		"00b00000 ff 0102":           api.ErrShort,
		"00b00000 01 0102 03":        api.ErrForm,
		"00b00000 02 0102 03 04":     api.ErrForm,
		"ff000000 01 0102 03":        api.ErrForm,
		"00b00000 00 0000 00":        api.ErrForm, // no data bytes
		"00b00000 00 0000 0000":      api.ErrForm,
		"00b00000 00 0000 000000":    api.ErrForm,
		"00b00000 00 0002 00":        api.ErrShort,
		"00b00000 00 0100 0001":      api.ErrShort,
		"00b00000 00 0001 00 00":     api.ErrForm, // one byte for Le
		"00b00000 00 0001 000000 00": api.ErrForm,
		"ff000000":                   api.ErrArg,
		"00600000":                   api.ErrArg,
		"006f0000 00":                api.ErrArg,
		"00900000 01 01":             api.ErrArg,
		"009f0000 00 0001 00 0000":   api.ErrArg,
	} {
		if c, e := apdu.Decode(raw(text)); e != want || !isZero(c) {
			t.Error(text, c, e)
		}
	}
}

// decoding reads a command after the words of P4.2.
func decoding(b []byte) (api.Command, api.Errno) {
	if len(b) < 4 {
		return api.Command{}, api.ErrShort
	}
	c := api.Command{CLA: int(b[0]), INS: int(b[1]), P1: int(b[2]), P2: int(b[3])}
	body, size := b[4:], len(b)-4
	switch {
	case size == 1:
		c.Le = (int(body[0])+255)%256 + 1
	case size >= 2 && body[0] != 0:
		n := int(body[0])
		if size < 1+n {
			return api.Command{}, api.ErrShort
		}
		if size > 2+n {
			return api.Command{}, api.ErrForm
		}
		c.Data = body[1 : 1+n]
		if size == 2+n {
			c.Le = (int(body[1+n])+255)%256 + 1
		}
	case size == 2:
		return api.Command{}, api.ErrShort
	case size == 3:
		c.Long = true
		c.Le = (int(body[1])*256+int(body[2])+65535)%65536 + 1
	case size > 3:
		c.Long = true
		n := int(body[1])*256 + int(body[2])
		if n == 0 {
			return api.Command{}, api.ErrForm
		}
		if size < 3+n {
			return api.Command{}, api.ErrShort
		}
		if size != 3+n && size != 5+n {
			return api.Command{}, api.ErrForm
		}
		c.Data = body[3 : 3+n]
		if size == 5+n {
			c.Le = (int(body[3+n])*256+int(body[4+n])+65535)%65536 + 1
		}
	}
	if e := apdu.Check(c); e != api.OK {
		return api.Command{}, e
	}
	return c, api.OK
}

// agree compares Decode with decoding, and reports whether b was decoded.
func agree(t *testing.T, b []byte) bool {
	t.Helper()
	want, wantE := decoding(b)
	got, e := apdu.Decode(b)
	if e != wantE || !equal(got, want) {
		t.Fatalf("%x: %v %v, not %v %v", b[:min(len(b), 16)], text(got), e, text(want), wantE)
	}
	if e != api.OK {
		return false
	}
	if back, e := apdu.Encode(got); e != api.OK || !bytes.Equal(back, b) {
		t.Fatalf("%x: encoded again: %x %v", b, back, e)
	}
	return true
}

func TestDecodeAllShortBodies(t *testing.T) {
	good := 0
	var grow func(b []byte, n int)
	grow = func(b []byte, n int) {
		if agree(t, b) {
			good++
		}
		for _, x := range []byte{0, 1, 2, 3, 4, 5, 0xff} {
			if n > 0 {
				grow(append(b[:len(b):len(b)], x), n-1)
			}
		}
	}
	for _, head := range []string{"", "00", "00b0", "00b000", "00b00102", "80e80000", "ffb00000", "00600000"} {
		grow(raw(head), 6)
	}
	if good == 0 {
		t.Error("nothing was decoded")
	}
}

func TestDecodeBodiesOfAllLengths(t *testing.T) {
	for _, begin := range []string{"00", "01", "80", "fe", "ff", "000001", "0000ff", "000100", "000102", "000200"} {
		for size := range 600 {
			b := octets.Join(raw("80e80000"), raw(begin), filled(size))
			agree(t, b)
		}
	}
	for _, n := range []int{0x7fff, 0xff00, 0xffff} {
		for size := n - 3; size <= n+4; size++ {
			agree(t, octets.Join([]byte{0, 0xd6, 0, 0, 0, byte(n >> 8), byte(n)}, filled(size)))
		}
	}
}

// P4.3

func TestResponses(t *testing.T) {
	for _, c := range []struct {
		r    api.Response
		want string
	}{
		{api.Response{SW: 0x9000}, "9000"},
		{api.Response{SW: 0x6100}, "6100"},
		{api.Response{SW: 0x6fff}, "6fff"},
		{api.Response{SW: 0x9fff}, "9fff"},
		{api.Response{Data: raw("6f07"), SW: 0x9000}, "6f079000"},
		{api.Response{Data: raw("9000"), SW: 0x6282}, "90006282"},
	} {
		b, e := apdu.EncodeResponse(c.r)
		if e != api.OK || !bytes.Equal(b, raw(c.want)) {
			t.Errorf("%s: %x %v", c.want, b, e)
		}
		r, e := apdu.DecodeResponse(raw(c.want))
		if e != api.OK || r.SW != c.r.SW || !bytes.Equal(r.Data, c.r.Data) {
			t.Error(c.want, r, e)
		}
	}
}

func TestResponsesWithAllStatusWords(t *testing.T) {
	for sw := range 1 << 16 {
		first := sw / 256
		valid := first >= 0x61 && first <= 0x6f || first >= 0x90 && first <= 0x9f
		b, e := apdu.EncodeResponse(api.Response{Data: []byte{7}, SW: sw})
		r, e2 := apdu.DecodeResponse([]byte{7, byte(sw >> 8), byte(sw)})
		if valid {
			if e != api.OK || e2 != api.OK || !bytes.Equal(b, []byte{7, byte(sw >> 8), byte(sw)}) || r.SW != sw || !bytes.Equal(r.Data, []byte{7}) {
				t.Fatalf("%x: %x %v, %v %v", sw, b, e, r, e2)
			}
			continue
		}
		if e != api.ErrRange || e2 != api.ErrRange || len(b) != 0 || r.SW != 0 || len(r.Data) != 0 {
			t.Fatalf("%x: %x %v, %v %v", sw, b, e, r, e2)
		}
	}
}

func TestResponsesWithNoStatusWord(t *testing.T) {
	for _, sw := range []int{-1, -0x7000, 0x10000, 0x19000, 0x16100, 1<<32 + 0x9000, math.MaxInt, math.MinInt, math.MinInt + 0x9000} {
		if b, e := apdu.EncodeResponse(api.Response{SW: sw}); e != api.ErrRange || len(b) != 0 {
			t.Errorf("%x: %x %v", sw, b, e)
		}
	}
	for _, text := range []string{"", "90"} {
		if r, e := apdu.DecodeResponse(raw(text)); e != api.ErrShort || r.SW != 0 || len(r.Data) != 0 {
			t.Error(text, r, e)
		}
	}
}

func TestLongResponses(t *testing.T) {
	longest := filled(65536)
	b, e := apdu.EncodeResponse(api.Response{Data: longest, SW: 0x9000})
	if e != api.OK || !bytes.Equal(b, octets.Join(longest, raw("9000"))) {
		t.Error(len(b), e)
	}
	if r, e := apdu.DecodeResponse(b); e != api.OK || r.SW != 0x9000 || !bytes.Equal(r.Data, longest) {
		t.Error(len(r.Data), e)
	}
	for _, sw := range []int{0x9000, 0, -1} { // the length is checked first
		if b, e := apdu.EncodeResponse(api.Response{Data: filled(65537), SW: sw}); e != api.ErrLong || len(b) != 0 {
			t.Error(sw, len(b), e)
		}
	}
	for _, end := range []string{"9000", "0000"} {
		if r, e := apdu.DecodeResponse(octets.Join(filled(65537), raw(end))); e != api.ErrLong || r.SW != 0 || len(r.Data) != 0 {
			t.Error(end, len(r.Data), e)
		}
	}
	if _, e := apdu.DecodeResponse(octets.Join(longest, raw("0000"))); e != api.ErrRange {
		t.Error(e)
	}
}

// P4.4

func TestClasses(t *testing.T) {
	count := 0
	for cla := -600; cla < 1200; cla++ {
		c, ok := apdu.Class(cla)
		want := cla >= 0 && cla <= 254 && cla/64%2 == 0 && cla/32%2 == 0 && cla/8%2 == 0
		if ok != want {
			t.Fatal(cla, ok)
		}
		if !ok {
			if c != (api.ClassInfo{}) {
				t.Fatal(cla, c)
			}
			continue
		}
		count++
		meaning := api.ClassInfo{Channel: cla % 4, Secure: cla/4%2 == 1, Chained: cla/16%2 == 1, Proprietary: cla/128 == 1}
		if c != meaning {
			t.Fatal(cla, c)
		}
		if back, e := apdu.Byte(c); e != api.OK || back != cla {
			t.Fatal(cla, back, e)
		}
	}
	if count != 32 {
		t.Error(count)
	}
}

func TestClassExamples(t *testing.T) {
	if c, ok := apdu.Class(0x94); !ok || c != (api.ClassInfo{Proprietary: true, Chained: true, Secure: true}) {
		t.Error(c, ok)
	}
	if c, ok := apdu.Class(0x03); !ok || c != (api.ClassInfo{Channel: 3}) {
		t.Error(c, ok)
	}
	for _, cla := range []int{0x08, 0x20, 0x40, 0x60, 0x88, 0xff, -1, 256, -128, 1 << 32, math.MaxInt, math.MinInt} {
		if c, ok := apdu.Class(cla); ok || c != (api.ClassInfo{}) {
			t.Errorf("%x: %v", cla, c)
		}
	}
}

func TestByte(t *testing.T) {
	for channel := range 4 {
		for bits := range 8 {
			c := api.ClassInfo{Channel: channel, Secure: bits&1 != 0, Chained: bits&2 != 0, Proprietary: bits&4 != 0}
			want := channel + bits&1*0x04 + bits>>1&1*0x10 + bits>>2&1*0x80
			if got, e := apdu.Byte(c); e != api.OK || got != want {
				t.Error(c, got, e)
			}
			if back, ok := apdu.Class(want); !ok || back != c {
				t.Error(want, back, ok)
			}
		}
	}
	for _, channel := range []int{-1, 4, 5, 8, 256, 1 << 32, math.MaxInt, math.MinInt} {
		for _, c := range []api.ClassInfo{{Channel: channel}, {Channel: channel, Secure: true, Chained: true, Proprietary: true}} {
			if got, e := apdu.Byte(c); e != api.ErrRange || got != 0 {
				t.Error(channel, got, e)
			}
		}
	}
}

// P4.5

// sameChain reports whether two chains are equal.
func sameChain(a, b []api.Command) bool {
	if len(a) != len(b) {
		return false
	}
	for i := range a {
		if !equal(a[i], b[i]) {
			return false
		}
	}
	return true
}

func TestChain(t *testing.T) {
	c := api.Command{CLA: 0x84, INS: 0xe8, P1: 1, P2: 2, Data: raw("0a0b0c0d0e"), Le: 7}
	part := func(cla int, data string, le int) api.Command {
		return api.Command{CLA: cla, INS: 0xe8, P1: 1, P2: 2, Data: raw(data), Le: le}
	}
	for n, want := range map[int][]api.Command{
		1:   {part(0x94, "0a", 0), part(0x94, "0b", 0), part(0x94, "0c", 0), part(0x94, "0d", 0), part(0x84, "0e", 7)},
		2:   {part(0x94, "0a0b", 0), part(0x94, "0c0d", 0), part(0x84, "0e", 7)},
		3:   {part(0x94, "0a0b0c", 0), part(0x84, "0d0e", 7)},
		4:   {part(0x94, "0a0b0c0d", 0), part(0x84, "0e", 7)},
		5:   {c},
		6:   {c},
		255: {c},
	} {
		if l, e := apdu.Chain(c, n); e != api.OK || !sameChain(l, want) {
			t.Error(n, l, e)
		}
		c := with(c, func(c *api.Command) { c.Long = true })
		want[len(want)-1].Long = true // all others are short
		if l, e := apdu.Chain(c, n); e != api.OK || !sameChain(l, want) {
			t.Error("long", n, l, e)
		}
	}
}

func TestChainExample(t *testing.T) {
	l, e := apdu.Chain(api.Command{CLA: 0x80, INS: 0xe8, Data: []byte{1, 2, 3}}, 2)
	if e != api.OK || !sameChain(l, []api.Command{{CLA: 0x90, INS: 0xe8, Data: []byte{1, 2}}, {CLA: 0x80, INS: 0xe8, Data: []byte{3}}}) {
		t.Error(l, e)
	}
}

func TestChainWithoutData(t *testing.T) {
	for _, c := range []api.Command{{INS: 0xb0}, {INS: 0xb0, Le: 256}, {INS: 0xb0, Le: 65536, Long: true}, {INS: 0xb0, Data: []byte{}}} {
		for _, n := range []int{1, 255} {
			if l, e := apdu.Chain(c, n); e != api.OK || !sameChain(l, []api.Command{c}) {
				t.Error(l, e)
			}
		}
	}
}

func TestChainErrors(t *testing.T) {
	counts := []int{0, -1, 256, 65536, math.MaxInt, math.MinInt}
	for _, m := range mistakes() {
		for _, n := range []int{0, 1, 255, 256} {
			if l, e := apdu.Chain(m.c, n); e != m.e || len(l) != 0 {
				t.Error(text(m.c), n, len(l), e)
			}
		}
	}
	for _, n := range counts {
		for _, c := range []api.Command{short(0, 0), short(5, 0), long(500, 0), {CLA: 0x08}, {CLA: 0x10, Data: filled(5)}} {
			if l, e := apdu.Chain(c, n); e != api.ErrArg || len(l) != 0 {
				t.Error(text(c), n, len(l), e)
			}
		}
	}
	for cla := range 255 {
		want := api.OK
		if class, ok := apdu.Class(cla); !ok || class.Chained {
			want = api.ErrForm
		}
		for _, size := range []int{0, 1, 2, 3} { // also for a command that is not divided
			l, e := apdu.Chain(api.Command{CLA: cla, Data: filled(size)}, 2)
			if e != want || e != api.OK && len(l) != 0 {
				t.Errorf("%x: %v %v", cla, l, e)
			}
		}
	}
}

// P4.6

// links returns a chain of commands with the given data, of which all but the last one say Chained.
func links(data ...[]byte) []api.Command {
	var l []api.Command
	for i, d := range data {
		c := api.Command{CLA: 0x91, INS: 0xe2, P1: 3, P2: 4, Data: d}
		if i == len(data)-1 {
			c.CLA = 0x81
		}
		l = append(l, c)
	}
	return l
}

// changed returns a chain of three commands, of which one was changed.
func changed(i int, change func(c *api.Command)) []api.Command {
	l := links([]byte{1}, []byte{2, 3}, []byte{4})
	change(&l[i])
	return l
}

func TestJoin(t *testing.T) {
	whole := func(n int, le int, long bool) api.Command {
		return api.Command{CLA: 0x81, INS: 0xe2, P1: 3, P2: 4, Data: filled(n), Le: le, Long: long}
	}
	last := func(l []api.Command, le int, long bool) []api.Command {
		l[len(l)-1].Le, l[len(l)-1].Long = le, long
		return l
	}
	cut := func(n int, at ...int) (l [][]byte) {
		b := filled(n)
		for i, x := range at {
			l = append(l, b[append([]int{0}, at...)[i]:x])
		}
		return l
	}
	for i, c := range []struct {
		l    []api.Command
		want api.Command
	}{
		{links(nil), whole(0, 0, false)},
		{links(filled(3)), whole(3, 0, false)},
		{links(cut(3, 1, 3)...), whole(3, 0, false)},
		{links(cut(3, 1, 2, 3)...), whole(3, 0, false)},
		{links(cut(3, 1, 3, 3)...), whole(3, 0, false)}, // the last one may have no data
		{last(links(cut(3, 1, 3)...), 9, false), whole(3, 9, false)},
		{last(links(cut(3, 1, 3)...), 9, true), whole(3, 9, true)},
		{last(links(cut(3, 2, 3)...), 0, true), whole(3, 0, true)},
		{last(links(cut(3, 3, 3)...), 65536, true), whole(3, 65536, true)},
		{links(cut(255, 250, 255)...), whole(255, 0, false)},
		{links(cut(256, 250, 256)...), whole(256, 0, true)},
		{last(links(cut(256, 255, 256)...), 256, false), whole(256, 256, true)},
		{links(cut(510, 255, 510)...), whole(510, 0, true)},
		{last(links(filled(300)), 0, true), whole(300, 0, true)},
	} {
		if got, e := apdu.Join(c.l); e != api.OK || !equal(got, c.want) {
			t.Error(i, text(got), e)
		}
	}
}

func TestJoinWithLongParts(t *testing.T) {
	l := changed(0, func(c *api.Command) { c.Long = true })
	if got, e := apdu.Join(l); e != api.OK || got.Long || !bytes.Equal(got.Data, []byte{1, 2, 3, 4}) {
		t.Error(text(got), e)
	}
	l = changed(1, func(c *api.Command) { c.Long, c.Data = true, filled(300) })
	if got, e := apdu.Join(l); e != api.OK || !got.Long || !bytes.Equal(got.Data, octets.Join([]byte{1}, filled(300), []byte{4})) {
		t.Error(text(got), e)
	}
}

func TestJoinErrors(t *testing.T) {
	type row struct {
		l []api.Command
		e api.Errno
	}
	rows := []row{{nil, api.ErrArg}, {[]api.Command{}, api.ErrArg}}
	for i := range 3 {
		rows = append(rows,
			row{changed(i, func(c *api.Command) { c.CLA ^= 0x10 }), api.ErrForm}, // Chained in the wrong place
			row{changed(i, func(c *api.Command) { c.CLA ^= 0x01 }), api.ErrForm},
			row{changed(i, func(c *api.Command) { c.CLA ^= 0x04 }), api.ErrForm},
			row{changed(i, func(c *api.Command) { c.CLA ^= 0x80 }), api.ErrForm},
			row{changed(i, func(c *api.Command) { c.CLA ^= 0x08 }), api.ErrForm},
			row{changed(i, func(c *api.Command) { c.CLA ^= 0x20 }), api.ErrForm},
			row{changed(i, func(c *api.Command) { c.CLA ^= 0x40 }), api.ErrForm},
			row{changed(i, func(c *api.Command) { c.INS++ }), api.ErrForm},
			row{changed(i, func(c *api.Command) { c.P1++ }), api.ErrForm},
			row{changed(i, func(c *api.Command) { c.P2-- }), api.ErrForm},
			row{changed(i, func(c *api.Command) { c.CLA = 255 }), api.ErrArg},
			row{changed(i, func(c *api.Command) { c.INS = 0x6e }), api.ErrArg},
			row{changed(i, func(c *api.Command) { c.P1 = 256 }), api.ErrRange},
			row{changed(i, func(c *api.Command) { c.Le = -1 }), api.ErrRange},
			row{changed(i, func(c *api.Command) { c.Le, c.P2 = 257, 5 }), api.ErrRange},
			row{changed(i, func(c *api.Command) { c.Data = filled(256) }), api.ErrLong},
			row{changed(i, func(c *api.Command) { c.Long, c.Data = true, nil }), api.ErrForm},
		)
	}
	for i := range 2 {
		rows = append(rows,
			row{changed(i, func(c *api.Command) { c.Data = nil }), api.ErrForm},
			row{changed(i, func(c *api.Command) { c.Le = 1 }), api.ErrForm},
			row{changed(i, func(c *api.Command) { c.Le, c.Long = 65536, true }), api.ErrForm},
		)
	}
	one := func(cla int) []api.Command { return []api.Command{{CLA: cla}} }
	rows = append(rows, row{one(0x10), api.ErrForm}, row{one(0x08), api.ErrForm}, row{one(0x18), api.ErrForm}, row{one(0xff), api.ErrArg})
	for i, r := range rows {
		if c, e := apdu.Join(r.l); e != r.e || !isZero(c) {
			t.Error(i, text(c), e, r.e)
		}
	}
}

func TestJoinReturnsTheErrorOfTheFirstCommand(t *testing.T) {
	for _, r := range []struct {
		first, second func(c *api.Command)
		e             api.Errno
	}{
		{func(c *api.Command) { c.Le = 1 }, func(c *api.Command) { c.P1 = -1 }, api.ErrForm},
		{func(c *api.Command) { c.P1 = -1 }, func(c *api.Command) { c.Le = 1 }, api.ErrRange},
		{func(c *api.Command) { c.CLA = 255 }, func(c *api.Command) { c.P1 = -1 }, api.ErrArg},
		{func(c *api.Command) { c.Data = nil }, func(c *api.Command) { c.CLA = 255 }, api.ErrForm},
		{func(c *api.Command) { c.Data = filled(256) }, func(c *api.Command) { c.CLA = 255 }, api.ErrLong},
	} {
		l := changed(0, r.first)
		r.second(&l[1])
		if c, e := apdu.Join(l); e != r.e || !isZero(c) {
			t.Error(text(c), e, r.e)
		}
	}
}

func TestJoinLimit(t *testing.T) {
	full := filled(255)
	var parts [][]byte
	for range 257 {
		parts = append(parts, full) // 65535 bytes
	}
	got, e := apdu.Join(links(parts...))
	if e != api.OK || !got.Long || !bytes.Equal(got.Data, bytes.Repeat(full, 257)) {
		t.Error(text(got), e)
	}
	if got, e := apdu.Join(links(append(parts, nil)...)); e != api.OK || len(got.Data) != 65535 {
		t.Error(text(got), e)
	}
	longer := append(parts, []byte{1})
	if got, e := apdu.Join(links(longer...)); e != api.ErrLong || !isZero(got) {
		t.Error(text(got), e)
	}
	l := links(append(longer, full)...)
	l[len(l)-1].P1++ // the errors of the commands come first
	if got, e := apdu.Join(l); e != api.ErrForm || !isZero(got) {
		t.Error(text(got), e)
	}
	for i := range l {
		l[i].Data, l[i].Long = filled(65535), true
	}
	l[len(l)-1].P1--
	if got, e := apdu.Join(l); e != api.ErrLong || !isZero(got) {
		t.Error(text(got), e)
	}
}

// P4.7

func TestSuccess(t *testing.T) {
	for sw := range 1 << 16 {
		first := sw / 256
		if got := apdu.Success(sw); got != (sw == 0x9000 || first == 0x61 || first == 0x62 || first == 0x63) {
			t.Fatalf("%x: %v", sw, got)
		}
	}
	for _, sw := range []int{-1, -0x6100, 0x10000, 0x16100, 0x19000, 1<<32 + 0x9000, math.MaxInt, math.MinInt, math.MinInt + 0x6100} {
		if apdu.Success(sw) {
			t.Errorf("%x", sw)
		}
	}
}

func TestSame(t *testing.T) {
	c := long(3, 9)
	all := []api.Command{c, short(3, 9), long(3, 0), long(2, 9), long(4, 9), long(0, 9), {}, {Data: []byte{0}}, {Long: true}, {Le: 1}, {Le: -1}, {CLA: -1}, {CLA: 999}}
	for _, change := range []func(c *api.Command){
		func(c *api.Command) { c.CLA++ },
		func(c *api.Command) { c.INS++ },
		func(c *api.Command) { c.P1++ },
		func(c *api.Command) { c.P2++ },
		func(c *api.Command) { c.Data[0]++ },
		func(c *api.Command) { c.Data[2]++ },
		func(c *api.Command) { c.Le++ },
	} {
		all = append(all, with(c, change))
	}
	for i, a := range all {
		for j, b := range all {
			b.Data = bytes.Clone(b.Data)
			if apdu.Same(a, b) != (i == j) {
				t.Error(text(a), text(b))
			}
		}
	}
	if !apdu.Same(api.Command{}, api.Command{Data: []byte{}}) || !apdu.Same(api.Command{Data: []byte{}}, api.Command{}) {
		t.Error("no data and empty data")
	}
}

// P4.8

func TestRoundTripOfCommands(t *testing.T) {
	for _, c := range valid() {
		b, e := apdu.Encode(c)
		if e != api.OK {
			t.Fatal(text(c), e)
		}
		got, e := apdu.Decode(b)
		if e != api.OK || !equal(got, c) || !apdu.Same(got, c) {
			t.Fatal(text(c), text(got), e)
		}
		if !agree(t, b) {
			t.Fatal(text(c))
		}
	}
}

func TestRoundTripOfResponses(t *testing.T) {
	for _, n := range []int{0, 1, 2, 255, 256, 257, 65535, 65536} {
		for _, sw := range []int{0x9000, 0x6100, 0x6fff, 0x9fff, 0x63c2} {
			b, e := apdu.EncodeResponse(api.Response{Data: filled(n), SW: sw})
			if e != api.OK || len(b) != n+2 {
				t.Fatal(n, sw, len(b), e)
			}
			r, e := apdu.DecodeResponse(b)
			if e != api.OK || r.SW != sw || !bytes.Equal(r.Data, filled(n)) {
				t.Fatal(n, sw, len(r.Data), r.SW, e)
			}
			if again, e := apdu.EncodeResponse(r); e != api.OK || !bytes.Equal(again, b) {
				t.Fatal(n, sw, e)
			}
		}
	}
}

// P4.9

func TestJoinOfChain(t *testing.T) {
	for _, c := range valid() {
		if class, ok := apdu.Class(c.CLA); !ok || class.Chained {
			continue
		}
		for _, n := range []int{1, 2, 3, 7, 127, 128, 254, 255} {
			l, e := apdu.Chain(c, n)
			if e != api.OK || len(l) != max(1, (len(c.Data)+n-1)/n) {
				t.Fatal(text(c), n, len(l), e)
			}
			for _, part := range l {
				if len(part.Data) > n || apdu.Check(part) != api.OK {
					t.Fatal(text(c), n, text(part))
				}
			}
			if got, e := apdu.Join(l); e != api.OK || !equal(got, c) {
				t.Fatal(text(c), n, text(got), e)
			}
		}
	}
}

// The rule 'Results': arguments are neither changed nor kept, and no two slices of a result share memory.

// behind returns b with room behind it, and a function that reports whether both are as they were.
func behind(b []byte) ([]byte, func() bool) {
	whole := append(bytes.Clone(b), 0xee, 0xee, 0xee, 0xee)
	before := bytes.Clone(whole)
	return whole[:len(b)], func() bool { return bytes.Equal(whole, before) }
}

func TestResultsAreNewMemory(t *testing.T) {
	c := api.Command{CLA: 0x80, INS: 0xe8, Le: 3}
	dataOf := func(l ...api.Command) (all [][]byte) {
		for _, c := range l {
			all = append(all, c.Data)
		}
		return all
	}
	for name, f := range map[string]func(b []byte) [][]byte{
		"Encode":         func(b []byte) [][]byte { c.Data = b; x, _ := apdu.Encode(c); return [][]byte{x} },
		"Decode, case 3": func(b []byte) [][]byte { x, _ := apdu.Decode(b[:len(b)-1]); return dataOf(x) },
		"Decode, case 4": func(b []byte) [][]byte { x, _ := apdu.Decode(b); return dataOf(x) },
		"EncodeResponse": func(b []byte) [][]byte {
			x, _ := apdu.EncodeResponse(api.Response{Data: b, SW: api.SWOK})
			return [][]byte{x}
		},
		"DecodeResponse": func(b []byte) [][]byte { x, _ := apdu.DecodeResponse(b); return [][]byte{x.Data} },
		"Chain": func(b []byte) [][]byte {
			c.Data = b
			whole, _ := apdu.Chain(c, 255)
			parts, _ := apdu.Chain(c, 2)
			return append(dataOf(whole...), dataOf(parts...)...)
		},
		"Join": func(b []byte) [][]byte {
			one, _ := apdu.Join([]api.Command{{CLA: 0x80, Data: b}})
			two, _ := apdu.Join([]api.Command{{CLA: 0x90, Data: b}, {CLA: 0x80, Data: b}})
			last, _ := apdu.Join([]api.Command{{CLA: 0x90, Data: b}, {CLA: 0x80}})
			return dataOf(one, two, last)
		},
	} {
		b, same := behind(raw("00d60000 04 01020390 00")) // a command, and a response
		results := f(b)
		for i, r := range results {
			if len(r) == 0 {
				t.Error(name, "has no result")
			}
			others := octets.Hex(octets.Join(results[i+1:]...))
			r = r[:cap(r)]
			for j := range r {
				r[j] ^= 0xff
			}
			if octets.Hex(octets.Join(results[i+1:]...)) != others {
				t.Error(name, "has results that share memory")
			}
		}
		if !same() {
			t.Error(name, "shares memory with its argument, or changes it")
		}
	}
}

func TestArgumentsAreNotChanged(t *testing.T) {
	c, same := short(5, 9), short(5, 9)
	l, before := links(filled(3), filled(200), filled(255)), links(filled(3), filled(200), filled(255))
	_, _ = apdu.Encode(c)
	_, _ = apdu.Chain(c, 2)
	_, _ = apdu.Chain(c, 255)
	_, _ = apdu.Join(l)
	if !equal(c, same) || !sameChain(l, before) {
		t.Error("an argument was changed")
	}
}
