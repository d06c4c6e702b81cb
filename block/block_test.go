package block_test

import (
	"bytes"
	"fmt"
	"math"
	"math/rand/v2"
	"strings"
	"testing"

	"smartcard/api"
	"smartcard/block"
	"smartcard/octets"
)

var sums = []int{api.SumLRC, api.SumCRC}

// noSums are numbers that are no kind of check values.
var noSums = []int{-1, 2, 3, 255, 256, 1 << 32, 1<<32 + 1, math.MaxInt, math.MinInt, math.MinInt + 1}

// raw returns the bytes that a text with spaces denotes.
func raw(text string) []byte {
	b, e := octets.Parse(strings.ReplaceAll(text, " ", ""))
	if e != api.OK {
		panic(text)
	}
	return b
}

// filled returns n bytes, of which neighbours differ.
func filled(n int) []byte {
	b := make([]byte, n)
	for i := range b {
		b[i] = byte(7*i + n)
	}
	return b
}

func blockI(nad, seq int, more bool, inf ...byte) api.Block {
	return api.Block{NAD: nad, Kind: api.BlockI, Seq: seq, More: more, Inf: inf}
}

func blockR(nad, seq, code int) api.Block {
	return api.Block{NAD: nad, Kind: api.BlockR, Seq: seq, Code: code}
}

func blockS(nad, code int, answer bool, inf ...byte) api.Block {
	return api.Block{NAD: nad, Kind: api.BlockS, Code: code, Answer: answer, Inf: inf}
}

// with returns a block in new memory, with a change.
func with(b api.Block, change func(b *api.Block)) api.Block {
	b.Inf = bytes.Clone(b.Inf)
	change(&b)
	return b
}

// equal compares blocks independently of the package's own Same.
func equal(a, b api.Block) bool { return show(a) == show(b) }

// isZero reports whether a block is the zero value.
func isZero(b api.Block) bool { return equal(b, api.Block{}) }

// show returns all parts of a block, in the order of the struct.
func show(b api.Block) string {
	return fmt.Sprint(b.NAD, " ", b.Kind, " ", b.Seq, b.More, b.Code, b.Answer, " ", octets.Hex(b.Inf))
}

// checked is the definition of Check.
func checked(b api.Block) api.Errno {
	isI, isR, isS := b.Kind == 0, b.Kind == 1, b.Kind == 2
	empty := len(b.Inf) == 0
	switch {
	case !isI && !isR && !isS:
		return api.ErrArg
	case b.NAD < 0 || b.NAD > 254:
		return api.ErrRange
	case !isS && b.Seq != 0 && b.Seq != 1, isR && (b.Code < 0 || b.Code > 2), isS && (b.Code < 0 || b.Code > 3):
		return api.ErrRange
	case isS && b.Seq != 0, isI && b.Code != 0, !isI && b.More, !isS && b.Answer:
		return api.ErrForm
	case isI && len(b.Inf) > 254:
		return api.ErrLong
	case isR && !empty, isS && (b.Code == 0 || b.Code == 2) && !empty:
		return api.ErrForm
	case isS && (b.Code == 1 || b.Code == 3) && (len(b.Inf) != 1 || b.Inf[0] == 0), isS && b.Code == 1 && b.Inf[0] == 255:
		return api.ErrForm
	}
	return api.OK
}

// control is the definition of the control byte of a valid block.
func control(b api.Block) byte {
	n := []int{0x00, 0x80, 0xc0}[b.Kind]
	switch b.Kind {
	case api.BlockI:
		n += 0x40 * b.Seq
		if b.More {
			n += 0x20
		}
	case api.BlockR:
		n += 0x10*b.Seq + b.Code
	case api.BlockS:
		if b.Answer {
			n += 0x20
		}
		n += b.Code
	}
	return byte(n)
}

// summed returns bytes with their check value, bit by bit.
func summed(sum int, b ...byte) []byte {
	register, lrc := 0xffff, byte(0)
	for _, x := range b {
		lrc ^= x
		register ^= int(x)
		for range 8 {
			out := register & 1
			register >>= 1
			if out == 1 {
				register ^= 0x8408
			}
		}
	}
	if sum == api.SumLRC {
		return append(bytes.Clone(b), lrc)
	}
	return append(bytes.Clone(b), byte(^register), byte(^register>>8))
}

// encoded is the definition of the encoding of a valid block.
func encoded(b api.Block, sum int) []byte {
	return summed(sum, append([]byte{byte(b.NAD), control(b), byte(len(b.Inf))}, b.Inf...)...)
}

// decoded is the definition of decoding: the errors in their order, with a search for the block that has the control byte.
func decoded(b []byte, sum int) (api.Block, api.Errno) {
	if sum != 0 && sum != 1 {
		return api.Block{}, api.ErrArg
	}
	size := len(b) - 1 - sum
	if size < 3 {
		return api.Block{}, api.ErrShort
	}
	if !bytes.Equal(summed(sum, b[:size]...), b) {
		return api.Block{}, api.ErrSum
	}
	for _, c := range controls() {
		if control(c) != b[1] {
			continue
		}
		if int(b[2]) != size-3 {
			return api.Block{}, api.ErrForm
		}
		c.NAD, c.Inf = int(b[0]), b[3:size]
		if e := checked(c); e != api.OK {
			return api.Block{}, e
		}
		return c, api.OK
	}
	return api.Block{}, api.ErrForm
}

// controls returns a block for every control byte.
func controls() []api.Block {
	var all []api.Block
	for seq := range 2 {
		all = append(all, blockI(0, seq, false), blockI(0, seq, true))
		for code := range 3 {
			all = append(all, blockR(0, seq, code))
		}
	}
	for code := range 4 {
		all = append(all, blockS(0, code, false), blockS(0, code, true))
	}
	return all
}

// valid returns valid blocks: all control bytes with the information fields that they can have, and all NADs.
func valid() []api.Block {
	var all []api.Block
	for _, c := range controls() {
		var fields [][]byte
		switch {
		case c.Kind == api.BlockI:
			for _, n := range []int{0, 1, 2, 3, 16, 127, 128, 253, 254} {
				fields = append(fields, filled(n))
			}
		case c.Kind == api.BlockS && c.Code == api.SIFS:
			for n := 1; n <= 254; n++ {
				fields = append(fields, []byte{byte(n)})
			}
		case c.Kind == api.BlockS && c.Code == api.SWTX:
			for n := 1; n <= 255; n++ {
				fields = append(fields, []byte{byte(n)})
			}
		default:
			fields = [][]byte{nil}
		}
		for i, inf := range fields {
			c.Inf, c.NAD = inf, (7*i+len(all))%255
			all = append(all, c)
		}
		for c.NAD = range 255 {
			all = append(all, c)
		}
	}
	return all
}

// mistake is a block with the error of Check for it.
type mistake struct {
	b api.Block
	e api.Errno
}

// mistakes returns blocks that are not valid: with one mistake, and with several.
func mistakes() []mistake {
	var all []mistake
	outside := []int{-1, -2, 4, 16, 255, 256, 257, 1 << 32, math.MaxInt, math.MinInt}
	for _, c := range controls() {
		if c.Kind == api.BlockS && c.Code%2 == 1 {
			c.Inf = []byte{9}
		}
		for _, n := range append(outside, 3) {
			all = append(all,
				mistake{with(c, func(b *api.Block) { b.Kind = n }), api.ErrArg},
				mistake{with(c, func(b *api.Block) { b.Kind, b.NAD, b.Seq, b.Code = n, -1, 7, 7 }), api.ErrArg})
		}
		for _, n := range []int{-1, -255, 255, 256, 1 << 32, math.MaxInt, math.MinInt, math.MinInt + 5} {
			all = append(all,
				mistake{with(c, func(b *api.Block) { b.NAD = n }), api.ErrRange},
				mistake{with(c, func(b *api.Block) { b.NAD, b.Inf = n, filled(300) }), api.ErrRange},
				mistake{with(c, func(b *api.Block) { b.NAD, b.More, b.Answer = n, true, true }), api.ErrRange})
		}
		for _, n := range append(outside, 1, 2, 3) {
			all = append(all, parts(with(c, func(b *api.Block) { b.Seq = n }))...)
			all = append(all, parts(with(c, func(b *api.Block) { b.Code = n }))...)
		}
		all = append(all, parts(c)...)
	}
	for _, n := range []int{255, 256, 257, 300, 510, 65536} {
		all = append(all, mistake{blockI(0, 1, true, filled(n)...), api.ErrLong})
	}
	return all
}

// parts returns those blocks that are not valid, of a block whose parts More, Answer and Inf are replaced by others.
func parts(b api.Block) []mistake {
	var all []mistake
	for _, inf := range [][]byte{b.Inf, nil, {0}, {1}, {255}, {1, 1}, filled(254), filled(255)} {
		for flags := range 4 {
			c := with(b, func(b *api.Block) { b.Inf, b.More, b.Answer = bytes.Clone(inf), flags&1 != 0, flags&2 != 0 })
			if e := checked(c); e != api.OK {
				all = append(all, mistake{c, e})
			}
		}
	}
	return all
}

// P6.1

func TestCheck(t *testing.T) {
	for _, b := range valid() {
		if e := block.Check(b); e != api.OK || checked(b) != api.OK {
			t.Fatal(show(b), e)
		}
	}
	seen := map[api.Errno]int{}
	for _, m := range mistakes() {
		seen[m.e]++
		if e := block.Check(m.b); e != m.e || e != checked(m.b) {
			t.Error(show(m.b), e, m.e)
		}
	}
	for _, e := range []api.Errno{api.ErrArg, api.ErrRange, api.ErrForm, api.ErrLong} {
		if seen[e] == 0 {
			t.Error("no block for", e)
		}
	}
}

func TestCheckExamples(t *testing.T) {
	for i, c := range []struct {
		b    api.Block
		want api.Errno
	}{
		{api.Block{}, api.OK},
		{blockI(254, 1, true, filled(254)...), api.OK},
		{blockI(0, 0, false, filled(255)...), api.ErrLong},
		{blockI(0, 2, false), api.ErrRange},
		{blockI(0, -1, false), api.ErrRange},
		{blockI(255, 0, false), api.ErrRange},
		{api.Block{Code: 1}, api.ErrForm},
		{api.Block{Code: -1}, api.ErrForm}, // the code of an I-block has no range
		{api.Block{Answer: true}, api.ErrForm},
		{api.Block{Answer: true, Inf: filled(255)}, api.ErrForm},
		{api.Block{Seq: 2, Answer: true}, api.ErrRange},
		{blockR(0, 1, 2), api.OK},
		{blockR(0, 1, 3), api.ErrRange},
		{blockR(0, 2, 0), api.ErrRange},
		{api.Block{Kind: api.BlockR, More: true}, api.ErrForm},
		{api.Block{Kind: api.BlockR, Answer: true}, api.ErrForm},
		{api.Block{Kind: api.BlockR, Inf: []byte{0}}, api.ErrForm},
		{api.Block{Kind: api.BlockR, Inf: filled(300)}, api.ErrForm},
		{api.Block{Kind: api.BlockR, Code: 3, More: true}, api.ErrRange},
		{blockS(0, api.SResync, true), api.OK},
		{blockS(0, api.SResync, true, 1), api.ErrForm},
		{blockS(0, api.SAbort, false), api.OK},
		{blockS(0, api.SAbort, false, 1), api.ErrForm},
		{blockS(0, api.SIFS, false), api.ErrForm},
		{blockS(0, api.SIFS, false, 0), api.ErrForm},
		{blockS(0, api.SIFS, false, 254), api.OK},
		{blockS(0, api.SIFS, false, 255), api.ErrForm},
		{blockS(0, api.SIFS, false, 1, 1), api.ErrForm},
		{blockS(0, api.SWTX, false, 255), api.OK},
		{blockS(0, api.SWTX, true, 0), api.ErrForm},
		{blockS(0, api.SWTX, true, filled(300)...), api.ErrForm},
		{blockS(0, 4, false), api.ErrRange},
		{api.Block{Kind: api.BlockS, Seq: 1}, api.ErrForm},
		{api.Block{Kind: api.BlockS, Seq: 2}, api.ErrForm}, // the number of an S-block has no range
		{api.Block{Kind: api.BlockS, More: true}, api.ErrForm},
		{api.Block{Kind: api.BlockS, Code: 4, More: true, Seq: 1}, api.ErrRange},
		{api.Block{Kind: 3, NAD: 255}, api.ErrArg},
		{api.Block{Kind: -1, NAD: 255}, api.ErrArg},
	} {
		if e := block.Check(c.b); e != c.want {
			t.Error(i, show(c.b), e)
		}
	}
}

// P6.2

func TestEncode(t *testing.T) {
	for _, c := range []struct {
		b    api.Block
		sum  int
		text string
	}{
		{blockI(0, 1, false, 0xa0, 0xb0), api.SumLRC, "00 40 02 a0 b0 52"},
		{blockI(0, 0, false), api.SumLRC, "00 00 00 00"},
		{blockI(0x21, 1, true, 5), api.SumLRC, "21 60 01 05 45"},
		{blockI(0, 0, true), api.SumLRC, "00 20 00 20"},
		{blockR(0, 0, api.RFine), api.SumLRC, "00 80 00 80"},
		{blockR(0, 1, api.RSum), api.SumLRC, "00 91 00 91"},
		{blockR(0, 0, api.ROther), api.SumLRC, "00 82 00 82"},
		{blockS(0, api.SResync, false), api.SumLRC, "00 c0 00 c0"},
		{blockS(0, api.SResync, true), api.SumLRC, "00 e0 00 e0"},
		{blockS(0x12, api.SIFS, false, 0xfe), api.SumLRC, "12 c1 01 fe 2c"},
		{blockS(0, api.SAbort, true), api.SumLRC, "00 e2 00 e2"},
		{blockS(0, api.SWTX, true, 3), api.SumLRC, "00 e3 01 03 e1"},
		{blockS(0, api.SWTX, false, 255), api.SumLRC, "00 c3 01 ff 3d"},
	} {
		if b, e := block.Encode(c.b, c.sum); e != api.OK || !bytes.Equal(b, raw(c.text)) {
			t.Error(c.text, octets.Hex(b), e)
		}
	}
	for _, sum := range sums {
		for _, b := range valid() {
			if got, e := block.Encode(b, sum); e != api.OK || !bytes.Equal(got, encoded(b, sum)) {
				t.Fatal(show(b), octets.Hex(got), e)
			}
		}
	}
}

func TestEncodeErrors(t *testing.T) {
	for _, m := range mistakes() {
		for _, sum := range sums {
			if b, e := block.Encode(m.b, sum); e != m.e || len(b) != 0 {
				t.Error(show(m.b), sum, octets.Hex(b), e)
			}
		}
	}
	for _, sum := range noSums {
		for _, b := range []api.Block{blockR(0, 0, 0), blockI(0, 7, false), blockI(0, 0, true, filled(255)...), {Kind: 3}} {
			if got, e := block.Encode(b, sum); e != api.ErrArg || len(got) != 0 {
				t.Error(show(b), sum, octets.Hex(got), e)
			}
		}
	}
}

// P6.3

// same compares the package's Decode with the definition.
func same(t *testing.T, b []byte, sum int) {
	t.Helper()
	want, wantE := decoded(b, sum)
	if got, e := block.Decode(b, sum); e != wantE || !equal(got, want) {
		t.Fatal(octets.Hex(b), sum, show(got), e, wantE)
	}
}

func TestDecode(t *testing.T) {
	for text, want := range map[string]api.Block{
		"00 82 00 82":       blockR(0, 0, api.ROther),
		"00 40 02 a0 b0 52": blockI(0, 1, false, 0xa0, 0xb0),
		"fe 20 00 de":       blockI(254, 0, true),
		"12 c1 01 fe 2c":    blockS(0x12, api.SIFS, false, 0xfe),
		"00 e3 01 ff 1d":    blockS(0, api.SWTX, true, 0xff),
	} {
		if b, e := block.Decode(raw(text), api.SumLRC); e != api.OK || !equal(b, want) {
			t.Error(text, show(b), e)
		}
	}
	for _, sum := range sums {
		for _, b := range valid() {
			if got, e := block.Decode(encoded(b, sum), sum); e != api.OK || !equal(got, b) {
				t.Fatal(show(b), show(got), e)
			}
		}
	}
}

func TestDecodeErrors(t *testing.T) {
	for _, c := range []struct {
		want  api.Errno
		texts []string
	}{
		{api.ErrShort, []string{"", "00", "00 80", "00 80 00", "00 00 00", "ff ff ff"}},
		{api.ErrSum, []string{"00 82 00 83", "00 83 00 82", "ff 83 05 00", "00 40 02 a0 b0 53", "00 40 02 a0 b0 52 00 01"}},
		{api.ErrForm, []string{"00 83 00 83", "00 84 00 84", "00 01 00 01", "00 10 00 10", "00 a0 00 a0", "00 8f 00 8f", "00 c4 00 c4", "00 d0 00 d0", "00 ff 00 ff", "00 61 00 61"}},
		// the number of bytes
		{api.ErrForm, []string{"00 00 01 01", "00 00 00 00 00", "00 00 02 aa a8", "00 80 01 81", "00 40 ff bf", "00 00 01 aa bb 10"}},
		// the errors come before that of the NAD
		{api.ErrForm, []string{"ff 83 00 7c", "ff 00 01 fe"}},
		{api.ErrRange, []string{"ff 00 00 ff", "ff 80 00 7f", "ff 80 01 00 7e", "ff c1 01 00 3f"}},
		// the information field
		{api.ErrForm, []string{"00 80 01 00 81", "00 c0 01 00 c1", "00 e2 01 05 e6", "00 c1 00 c1", "00 c1 01 00 c0", "00 c1 01 ff 3f", "00 c3 01 00 c2", "00 e3 02 01 02 e2"}},
	} {
		for _, text := range c.texts {
			if b, e := block.Decode(raw(text), api.SumLRC); e != c.want || !isZero(b) {
				t.Error(text, show(b), e)
			}
		}
	}
	for _, sum := range sums {
		long := append([]byte{0, 0, 255}, filled(255)...)
		if b, e := block.Decode(summed(sum, long...), sum); e != api.ErrLong || !isZero(b) {
			t.Error(show(b), e)
		}
		long[0] = 255
		if b, e := block.Decode(summed(sum, long...), sum); e != api.ErrRange || !isZero(b) {
			t.Error(show(b), e)
		}
		longer := append([]byte{0, 0, 0}, filled(256)...) // 256 bytes have the length 0 in one byte
		if b, e := block.Decode(summed(sum, longer...), sum); e != api.ErrForm || !isZero(b) {
			t.Error(show(b), e)
		}
	}
	for _, sum := range noSums {
		for _, text := range []string{"", "00", "00 80 00 80", "00 83 00 82"} {
			if b, e := block.Decode(raw(text), sum); e != api.ErrArg || !isZero(b) {
				t.Error(text, sum, show(b), e)
			}
		}
	}
}

func TestDecodeOfAllControlBytes(t *testing.T) {
	for _, sum := range sums {
		for c := range 256 {
			for _, nad := range []byte{0, 1, 254, 255} {
				for _, inf := range [][]byte{nil, {0}, {1}, {254}, {255}, {1, 2}, filled(254), filled(255)} {
					b := append([]byte{nad, byte(c), byte(len(inf))}, inf...)
					same(t, summed(sum, b...), sum)
					same(t, b, sum)
					b[2]++
					same(t, summed(sum, b...), sum)
				}
			}
		}
	}
}

func TestDecodeOfOddStrings(t *testing.T) {
	random := rand.New(rand.NewPCG(6, 3))
	for n := range 20000 {
		b := make([]byte, n%9)
		for i := range b {
			b[i] = byte(random.IntN(256))
		}
		if len(b) > 2 {
			b[1] &= 0xe3
			b[2] = byte(len(b) - 3 + random.IntN(4)/3)
		}
		for _, sum := range sums {
			same(t, b, sum)
			same(t, summed(sum, b...), sum)
			same(t, summed(1-sum, b...), sum)
		}
	}
}

// P6.4

func TestSame(t *testing.T) {
	all := []api.Block{{}, blockI(1, 1, true, 1, 2), blockS(1, 1, true, 9)}
	for _, b := range all[:3:3] {
		for _, change := range []func(b *api.Block){
			func(b *api.Block) { b.NAD += 256 },
			func(b *api.Block) { b.Kind = 1 },
			func(b *api.Block) { b.Seq = 2 },
			func(b *api.Block) { b.More = !b.More },
			func(b *api.Block) { b.Code = -1 },
			func(b *api.Block) { b.Answer = !b.Answer },
			func(b *api.Block) { b.Inf = append(b.Inf, 0) },
			func(b *api.Block) { b.Inf = append([]byte{7}, b.Inf...) },
			func(b *api.Block) { b.Inf = filled(len(b.Inf) + 300) },
		} {
			all = append(all, with(b, change))
		}
	}
	for _, a := range all {
		for _, b := range all {
			if got := block.Same(a, with(b, func(*api.Block) {})); got != equal(a, b) {
				t.Error(show(a), show(b), got)
			}
		}
	}
	if !block.Same(api.Block{Inf: []byte{}}, api.Block{}) || !block.Same(api.Block{}, api.Block{Inf: []byte{}}) {
		t.Error("an empty Inf is equal to nil")
	}
	for _, m := range mistakes() {
		if !block.Same(m.b, with(m.b, func(*api.Block) {})) || block.Same(m.b, with(m.b, func(b *api.Block) { b.NAD ^= 1 })) {
			t.Error(show(m.b))
		}
	}
}

// P6.5

func TestText(t *testing.T) {
	for text, b := range map[string]api.Block{
		"R 00 1 sum":                             blockR(0, 1, api.RSum),
		"R fe 0 fine":                            blockR(254, 0, api.RFine),
		"R 0a 1 other":                           blockR(10, 1, api.ROther),
		"S 12 ifs request fe":                    blockS(0x12, api.SIFS, false, 0xfe),
		"S 00 ifs answer 01":                     blockS(0, api.SIFS, true, 1),
		"S 00 resync request -":                  blockS(0, api.SResync, false),
		"S 00 resync answer -":                   blockS(0, api.SResync, true),
		"S 00 abort request -":                   blockS(0, api.SAbort, false),
		"S 80 abort answer -":                    blockS(0x80, api.SAbort, true),
		"S 00 wtx request ff":                    blockS(0, api.SWTX, false, 0xff),
		"S 00 wtx answer 0a":                     blockS(0, api.SWTX, true, 10),
		"I 00 0 last -":                          blockI(0, 0, false),
		"I 00 1 more a0b0":                       blockI(0, 1, true, 0xa0, 0xb0),
		"I 21 1 last 00":                         blockI(0x21, 1, false, 0),
		"I 00 0 more -":                          blockI(0, 0, true),
		"I 00 1 last " + octets.Hex(filled(254)): blockI(0, 1, false, filled(254)...),
	} {
		if got := block.Text(b); got != text {
			t.Error(text, got)
		}
	}
	for _, m := range mistakes() {
		if got := block.Text(m.b); got != "" {
			t.Error(show(m.b), got)
		}
	}
}

// P6.6

func TestRoundTrip(t *testing.T) {
	lines := map[string]api.Block{}
	for _, b := range valid() {
		for _, sum := range sums {
			x, e := block.Encode(b, sum)
			if e != api.OK {
				t.Fatal(show(b), e)
			}
			got, e := block.Decode(x, sum)
			if e != api.OK || !block.Same(got, b) || !equal(got, b) {
				t.Fatal(show(b), show(got), e)
			}
			if again, e := block.Encode(got, sum); e != api.OK || !bytes.Equal(again, x) {
				t.Fatal(octets.Hex(x), octets.Hex(again), e)
			}
		}
		line := block.Text(b)
		if other, ok := lines[line]; line == "" || ok && !equal(other, b) {
			t.Fatal(line, show(b), show(other))
		}
		lines[line] = b
	}
}

func TestEncodeInvertsDecode(t *testing.T) {
	n := 0
	for _, sum := range sums {
		for c := range 256 {
			for size := range 3 {
				x := summed(sum, append([]byte{byte(c) % 255, byte(c), byte(size)}, filled(size)...)...)
				b, e := block.Decode(x, sum)
				if e != api.OK {
					continue
				}
				n++
				if again, e := block.Encode(b, sum); e != api.OK || !bytes.Equal(again, x) {
					t.Error(octets.Hex(x), octets.Hex(again), e)
				}
			}
		}
	}
	if n != 2*(4*3+6+4+4) {
		t.Error(n)
	}
}

// P6.7

func TestDamage(t *testing.T) {
	for _, sum := range sums {
		for i, b := range valid() {
			x, _ := block.Encode(b, sum)
			for bit := range 8 * len(x) {
				if i%10 != 0 && bit%7 != i%7 {
					continue
				}
				x[bit/8] ^= 1 << (bit % 8)
				if got, e := block.Decode(x, sum); e != api.ErrSum || !isZero(got) {
					t.Fatal(show(b), bit, show(got), e)
				}
				x[bit/8] ^= 1 << (bit % 8)
			}
		}
	}
}

// The rule 'Results': results are new memory, and arguments are neither changed nor kept.

func TestResultsAreNewMemory(t *testing.T) {
	for _, sum := range sums {
		room := []byte{1, 2, 3, 0xee, 0xee, 0xee, 0xee}
		b := blockI(1, 1, true)
		b.Inf = room[:3]
		want := encoded(b, sum)
		x, e := block.Encode(b, sum)
		if e != api.OK || !bytes.Equal(x, want) {
			t.Fatal(octets.Hex(x), e)
		}
		for i := range x[:cap(x)] {
			x[:cap(x)][i] ^= 0xff
		}
		block.Check(b)
		block.Same(b, b)
		if block.Text(b) != "I 01 1 more 010203" || octets.Hex(room) != "010203eeeeeeee" {
			t.Error("a function shares memory with its argument, or changes it", octets.Hex(room))
		}
		if again, e := block.Encode(b, sum); e != api.OK || !bytes.Equal(again, want) {
			t.Error("Encode keeps its result")
		}
		whole := append(bytes.Clone(want), 0xee, 0xee, 0xee, 0xee)
		before := bytes.Clone(whole)
		got, e := block.Decode(whole[:len(want)], sum)
		if e != api.OK || !equal(got, b) {
			t.Fatal(show(got), e)
		}
		for i := range got.Inf[:cap(got.Inf)] {
			got.Inf[:cap(got.Inf)][i] ^= 0xff
		}
		if !bytes.Equal(whole, before) {
			t.Error("Decode shares memory with its argument, or changes it")
		}
		got, _ = block.Decode(whole[:len(want)], sum)
		clear(whole)
		if !equal(got, b) {
			t.Error("Decode keeps its argument")
		}
	}
}
