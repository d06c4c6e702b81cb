package tone_test

import (
	"bytes"
	"math"
	"slices"
	"strconv"
	"strings"
	"testing"

	"smartcard/api"
	"smartcard/block"
	"smartcard/octets"
	"smartcard/tone"
)

var sums = []int{api.SumLRC, api.SumCRC}

// raw returns the bytes of a text: hexadecimal digits, - for none, or a number of bytes as in 254*.
func raw(text string) []byte {
	if text == "-" {
		return nil
	}
	if n, ok := strings.CutSuffix(text, "*"); ok {
		size, e := strconv.Atoi(n)
		if e != nil {
			panic(text)
		}
		return filled(size)
	}
	b, e := octets.Parse(text)
	if e != api.OK {
		panic(text)
	}
	return b
}

// filled returns n bytes, of which neighbours differ, also those at the same place of two pieces.
func filled(n int) []byte {
	b := make([]byte, n)
	for i := range b {
		b[i] = byte(i + i/251 + n)
	}
	return b
}

// flipped returns bytes of which one bit is inverted.
func flipped(b []byte, bit int) []byte {
	b = bytes.Clone(b)
	bit %= 8 * len(b)
	b[bit/8] ^= 1 << (bit % 8)
	return b
}

// sent returns the transmission that a text describes: the line of a block without its NAD, such as "R 1 sum", "I 0 more 0102" or "S ifs request fe"; "NAD5" before it for another NAD, "damaged" before it for an inverted bit, and "bytes" before hexadecimal digits.
func sent(text string, sum int) []byte {
	w := strings.Fields(text)
	nad := 0
	switch {
	case w[0] == "bytes":
		return raw(w[1])
	case w[0] == "damaged":
		return flipped(sent(strings.Join(w[1:], " "), sum), 13)
	case w[0] == "NAD5":
		nad = 5
		w = w[1:]
	}
	b := api.Block{NAD: nad}
	switch w[0] {
	case "I":
		b.Seq, b.More, b.Inf = slices.Index([]string{"0", "1"}, w[1]), w[2] == "more", raw(w[3])
	case "R":
		b.Kind, b.Seq, b.Code = api.BlockR, slices.Index([]string{"0", "1"}, w[1]), slices.Index([]string{"fine", "sum", "other"}, w[2])
	case "S":
		b.Kind, b.Code, b.Answer, b.Inf = api.BlockS, slices.Index([]string{"resync", "ifs", "abort", "wtx"}, w[1]), w[2] == "answer", raw(w[3])
	default:
		panic(text)
	}
	x, e := block.Encode(b, sum)
	if e != api.OK {
		panic(text)
	}
	return x
}

// show returns the text for what a side has sent; empty if it has sent nothing.
func show(b []byte, sum int) string {
	if len(b) == 0 {
		return ""
	}
	x, e := block.Decode(b, sum)
	line, ok := strings.CutPrefix(block.Text(x), block.Text(x)[:1]+" 00 ")
	if e != api.OK || !ok {
		return "not a block of this protocol: " + octets.Hex(b)
	}
	return block.Text(x)[:2] + line
}

// text returns the text for bytes that may be there.
func text(b []byte, ok bool) string {
	switch {
	case !ok && len(b) == 0:
		return "none"
	case !ok:
		return "none, but " + octets.Hex(b)
	case len(b) == 0:
		return "-"
	}
	return octets.Hex(b)
}

// step is a call of a side, and what it returns.
type step struct{ call, want string }

// long returns the text for n bytes.
func long(n int) string { return octets.Hex(filled(n)) }

// number returns the number at the end of a call.
func number(arg string) int {
	n, e := strconv.Atoi(arg)
	if e != nil {
		panic(arg)
	}
	return n
}

// callCard calls a card's side, and returns the result as a text.
func callCard(c *tone.Card, call string, sum int) string {
	name, arg, _ := strings.Cut(call, " ")
	switch name {
	case "receive":
		return show(c.Receive(sent(arg, sum)), sum)
	case "command":
		return text(c.Command())
	case "reply":
		return show(c.Reply(raw(arg)), sum)
	case "extend":
		return show(c.Extend(number(arg)), sum)
	}
	panic(call)
}

// callTerminal calls a terminal's side, and returns the result as a text.
func callTerminal(c *tone.Terminal, call string, sum int) string {
	name, arg, _ := strings.Cut(call, " ")
	switch name {
	case "offer":
		return show(c.Offer(number(arg)), sum)
	case "send":
		return show(c.Send(raw(arg)), sum)
	case "receive":
		return show(c.Receive(sent(arg, sum)), sum)
	case "timeout":
		return show(c.Timeout(), sum)
	case "response":
		return text(c.Response())
	case "failed":
		return strconv.Itoa(int(c.Failed()))
	}
	panic(call)
}

// script is a sequence of calls of one side, with what they return.
type script struct {
	name  string
	ifs   int
	steps []step
}

// play plays scripts with new sides: begin makes one, and returns how it is called.
func play(t *testing.T, scripts []script, begin func(ifs, sum int) func(call string) string) {
	t.Helper()
	for _, s := range scripts {
		for _, sum := range sums {
			call := begin(s.ifs, sum)
			for i, x := range s.steps {
				if got := call(x.call); got != x.want {
					t.Fatalf("%s, sum %d, step %d (%.80s): %q instead of %q", s.name, sum, i, x.call, got, x.want)
				}
			}
		}
	}
}

// playCard plays scripts with new cards' sides.
func playCard(t *testing.T, scripts []script) {
	t.Helper()
	play(t, scripts, func(ifs, sum int) func(string) string {
		c := tone.NewCard(ifs, sum)
		return func(call string) string { return callCard(c, call, sum) }
	})
}

// playTerminal plays scripts with new terminals' sides.
func playTerminal(t *testing.T, scripts []script) {
	t.Helper()
	play(t, scripts, func(ifs, sum int) func(string) string {
		c := tone.NewTerminal(ifs, sum)
		return func(call string) string { return callTerminal(c, call, sum) }
	})
}

// times returns a step several times.
func times(n int, s step) []step { return slices.Repeat([]step{s}, n) }

// steps joins steps.
func steps(l ...any) []step {
	var all []step
	for _, x := range l {
		switch x := x.(type) {
		case step:
			all = append(all, x)
		case []step:
			all = append(all, x...)
		}
	}
	return all
}

// NewCard, NewTerminal

func TestNew(t *testing.T) {
	odd := []int{0, -1, 255, 256, 257, 1 << 32, 1<<32 + 32, math.MaxInt, math.MinInt, math.MinInt + 32}
	for _, sum := range sums {
		for ifs := 1; ifs <= api.MaxInf; ifs++ {
			if tone.NewCard(ifs, sum) == nil || tone.NewTerminal(ifs, sum) == nil {
				t.Error(ifs, sum)
			}
		}
		for _, ifs := range odd {
			if tone.NewCard(ifs, sum) != nil || tone.NewTerminal(ifs, sum) != nil {
				t.Error(ifs, sum)
			}
		}
	}
	for _, sum := range []int{-1, 2, 3, 256, 1 << 32, math.MaxInt, math.MinInt} {
		for _, ifs := range append(odd, 1, 32, 254) {
			if tone.NewCard(ifs, sum) != nil || tone.NewTerminal(ifs, sum) != nil {
				t.Error(ifs, sum)
			}
		}
	}
	if tone.MaxFailures != 10 {
		t.Error(tone.MaxFailures)
	}
}

// The rule 'Objects': nil, and sides that were not made by the package.

func TestNoSide(t *testing.T) {
	transmissions := [][]byte{nil, {0}, sent("I 0 last 01", 0), sent("R 0 fine", 0), sent("S resync request -", 0), sent("S ifs answer fe", 0), sent("R 0 fine", 1)}
	for _, c := range []*tone.Card{nil, {}, new(tone.Card)} {
		for _, b := range transmissions {
			if got := c.Receive(b); len(got) != 0 {
				t.Error(octets.Hex(got))
			}
			for _, got := range [][]byte{c.Reply(b), c.Extend(1), c.Extend(0)} {
				if len(got) != 0 {
					t.Error(octets.Hex(got))
				}
			}
			if got, ok := c.Command(); ok || len(got) != 0 {
				t.Error(octets.Hex(got))
			}
		}
	}
	for _, c := range []*tone.Terminal{nil, {}, new(tone.Terminal)} {
		for _, b := range transmissions {
			for _, got := range [][]byte{c.Receive(b), c.Send(b), c.Offer(32), c.Offer(0), c.Timeout()} {
				if len(got) != 0 {
					t.Error(octets.Hex(got))
				}
			}
			if got, ok := c.Response(); ok || len(got) != 0 {
				t.Error(octets.Hex(got))
			}
			if e := c.Failed(); e != api.ErrNil {
				t.Error(e)
			}
		}
	}
}

// The example of the chapter.

func TestExample(t *testing.T) {
	card, terminal := tone.NewCard(32, api.SumLRC), tone.NewTerminal(32, api.SumLRC)
	b := terminal.Send(raw("00a4000002"))
	if octets.Hex(b) != "00000500a4000002a3" {
		t.Fatal(octets.Hex(b))
	}
	if got := card.Receive(b); len(got) != 0 {
		t.Fatal(octets.Hex(got))
	}
	if got, ok := card.Command(); !ok || octets.Hex(got) != "00a4000002" {
		t.Fatal(octets.Hex(got), ok)
	}
	b = card.Reply(raw("9000"))
	if octets.Hex(b) != "000002900092" {
		t.Fatal(octets.Hex(b))
	}
	if got := terminal.Receive(b); len(got) != 0 {
		t.Fatal(octets.Hex(got))
	}
	if got, ok := terminal.Response(); !ok || octets.Hex(got) != "9000" || terminal.Failed() != api.OK {
		t.Fatal(octets.Hex(got), ok)
	}
	if b = terminal.Send(raw("01")); octets.Hex(b) != "0040010140" {
		t.Fatal(octets.Hex(b))
	}
}

// The rule 'Results': results are new memory, and arguments are neither changed nor kept.

func TestResultsAreNewMemory(t *testing.T) {
	spoil := func(b []byte) {
		for i := range b[:cap(b)] {
			b[:cap(b)][i] ^= 0xff
		}
	}
	sum := api.SumCRC
	card, terminal := tone.NewCard(3, sum), tone.NewTerminal(3, sum)
	room := raw("0102030405eeeeee")
	b := terminal.Send(room[:5])
	if octets.Hex(room) != "0102030405eeeeee" {
		t.Fatal(octets.Hex(room))
	}
	spoil(room)
	first := bytes.Clone(b)
	spoil(b)
	if got := show(terminal.Receive(sent("R 0 sum", sum)), sum); got != "I 0 more 010203" {
		t.Fatal(got)
	}
	answer := card.Receive(first)
	spoil(first)
	last := terminal.Receive(answer)
	spoil(answer)
	if got := show(last, sum); got != "I 1 last 0405" {
		t.Fatal(got)
	}
	card.Receive(last)
	spoil(last)
	for range 2 {
		got, ok := card.Command()
		if text(got, ok) != "0102030405" {
			t.Fatal(text(got, ok))
		}
		spoil(got)
	}
	ask := card.Extend(9)
	spoil(ask)
	if got := show(card.Receive(nil), sum); got != "S wtx request 09" {
		t.Fatal(got)
	}
	card.Receive(sent("S wtx answer 09", sum))
	reply := raw("0a0b0c0d")
	spoil(card.Reply(reply))
	spoil(reply)
	if got := show(card.Receive(sent("R 0 other", sum)), sum); got != "I 0 last 0a0b0c0d" {
		t.Fatal(got)
	}
	end := sent("I 0 last 0a0b0c0d", sum)
	terminal.Receive(end)
	spoil(end)
	for range 2 {
		got, ok := terminal.Response()
		if text(got, ok) != "0a0b0c0d" {
			t.Fatal(text(got, ok))
		}
		spoil(got)
	}
	spoil(terminal.Offer(7))
	if got := show(terminal.Timeout(), sum); got != "S ifs request 07" {
		t.Fatal(got)
	}
}
