package tzero_test

import (
	"bytes"
	"math"
	"math/rand/v2"
	"strconv"
	"strings"
	"testing"

	"smartcard/api"
	"smartcard/octets"
	"smartcard/tzero"
)

// raw returns the bytes of a text with spaces: hexadecimal digits, or numbers of bytes as in 254*.
func raw(text string) []byte {
	var all []byte
	for _, word := range strings.Fields(text) {
		n, ok := strings.CutSuffix(word, "*")
		b, e := octets.Parse(word)
		if ok {
			size, err := strconv.Atoi(n)
			if err != nil {
				panic(text)
			}
			b, e = filled(size), api.OK
		}
		if e != api.OK {
			panic(text)
		}
		all = append(all, b...)
	}
	return all
}

// filled returns n bytes, of which neighbours differ, also those at the same place of two parts.
func filled(n int) []byte {
	b := make([]byte, n)
	for i := range b {
		b[i] = byte(i + i/251 + n)
	}
	return b
}

// hex returns what a test compares and shows of bytes.
func hex(b []byte) string { return octets.Hex(b) }

// word returns the two bytes of a status word.
func word(sw int) []byte { return []byte{byte(sw >> 8), byte(sw)} }

// show returns what a test compares and shows of a command, if there is one: its header, Le, and its data.
func show(c api.Command, ok bool) string {
	if c.Long {
		return "long"
	}
	return strings.Join([]string{strconv.FormatBool(ok), strconv.Itoa(c.CLA), strconv.Itoa(c.INS), strconv.Itoa(c.P1), strconv.Itoa(c.P2), strconv.Itoa(c.Le), hex(c.Data)}, " ")
}

// none is what show returns if there is no command.
const none = "false 0 0 0 0 0 "

// showResponse returns what a test compares and shows of a response, if there is one.
func showResponse(r api.Response, ok bool) string {
	return strings.Join([]string{strconv.FormatBool(ok), strconv.Itoa(r.SW), hex(r.Data)}, " ")
}

// noResponse is what showResponse returns if there is none.
const noResponse = "false 0 "

// split divides bytes at random places.
func split(r *rand.Rand, b []byte) [][]byte {
	var all [][]byte
	for len(b) > 0 {
		n := min(len(b), r.IntN(1+r.IntN(20)))
		all, b = append(all, b[:n]), b[n:]
	}
	return append(all, nil)
}

// secure is the definition of a class byte with a meaning that says Secure.
func secure(cla int) bool { return cla&0x6c == 0x04 }

// The rule 'Objects': nil, and sides that were not made by the package.

func TestNoSide(t *testing.T) {
	for _, c := range []*tzero.Card{nil, {}, new(tzero.Card)} {
		for _, b := range [][]byte{nil, raw("00"), raw("00 b0 00 00 04"), raw("ff b0 00 00 04"), filled(300)} {
			if got := c.Receive(b); len(got) != 0 {
				t.Error(hex(got))
			}
			if got := show(c.Command()); got != none {
				t.Error(got)
			}
			if got := c.Reply(api.Response{SW: api.SWOK}); len(got) != 0 {
				t.Error(hex(got))
			}
			if got := c.Wait(); len(got) != 0 {
				t.Error(hex(got))
			}
		}
	}
	for _, c := range []*tzero.Terminal{nil, {}, new(tzero.Terminal)} {
		for _, x := range []api.Command{{}, {INS: 0xb0, Le: 4}, {CLA: 255}, {CLA: -1, Long: true}, {Long: true, Le: 5}} {
			if b, e := c.Send(x); e != api.ErrNil || len(b) != 0 {
				t.Error(hex(b), e)
			}
			if b := c.Receive(raw("90 00")); len(b) != 0 {
				t.Error(hex(b))
			}
			if got := showResponse(c.Response()); got != noResponse {
				t.Error(got)
			}
			if e := c.Failed(); e != api.ErrNil {
				t.Error(e)
			}
		}
	}
}

// The rule 'Results': results are new memory, and arguments are neither changed nor kept.

func TestResultsAreNewMemory(t *testing.T) {
	spoil := func(b []byte) {
		for i := range b[:cap(b)] {
			b[:cap(b)][i] ^= 0xff
		}
	}
	in := []int{0xd6, 0xa4}
	card := tzero.NewCard(in)
	in[0], in[1] = 0xb0, 0xb0
	head := raw("00 d6 00 00 03 01 02 03")
	sent := card.Receive(head)
	if hex(head) != "00d6000003010203" || hex(sent) != "d6" {
		t.Fatal(hex(head), hex(sent))
	}
	spoil(head)
	spoil(sent)
	for range 2 {
		c, ok := card.Command()
		if show(c, ok) != "true 0 214 0 0 256 010203" {
			t.Fatal(show(c, ok))
		}
		spoil(c.Data)
	}
	spoil(card.Wait())
	room := filled(8)
	spoil(card.Reply(api.Response{Data: room[:5], SW: api.SWOK}))
	if hex(room) != hex(filled(8)) {
		t.Fatal(hex(room))
	}
	spoil(room)
	for _, want := range []string{"c008096103", "c00a0b0c9000"} {
		n := (len(want) - 6) / 2
		got := card.Receive([]byte{0, 0xc0, 0, 0, byte(n)})
		if hex(got) != want {
			t.Fatal(hex(got), want)
		}
		spoil(got)
	}
	terminal := tzero.NewTerminal()
	data := filled(9)
	sent, e := terminal.Send(api.Command{INS: 0xd6, Data: data[:3], Le: 256})
	if e != api.OK || hex(data) != hex(filled(9)) {
		t.Fatal(e, hex(data))
	}
	spoil(sent)
	spoil(data)
	sent = terminal.Receive(raw("d6"))
	if hex(sent) != hex(filled(9)[:3]) {
		t.Fatal(hex(sent))
	}
	spoil(sent)
	b := raw("61 03")
	spoil(terminal.Receive(b))
	spoil(b)
	b = raw("c0 070809 9000")
	terminal.Receive(b)
	if hex(b) != "c00708099000" {
		t.Fatal(hex(b))
	}
	spoil(b)
	for range 2 {
		r, ok := terminal.Response()
		if showResponse(r, ok) != "true 36864 070809" {
			t.Fatal(showResponse(r, ok))
		}
		spoil(r.Data)
	}
}

// P7.3, and with it P1, as far as this layer reaches: commands and responses arrive as they were sent.

// delivery is how a command and its response are exchanged between two sides.
type delivery struct {
	card     *tzero.Card
	terminal *tzero.Terminal
	reply    api.Response
	r        *rand.Rand // divides what is sent, and lets the card ask for more time
	waits    []string   // the commands that waited
}

// answer is what the card does with bytes that it receives in parts.
func (d *delivery) answer(b []byte) []byte {
	var sent []byte
	for _, part := range split(d.r, b) {
		sent = append(sent, d.card.Receive(part)...)
	}
	if c, ok := d.card.Command(); ok {
		d.waits = append(d.waits, show(c, ok))
		for range d.r.IntN(3) {
			sent = append(sent, d.card.Wait()...)
		}
		sent = append(sent, d.card.Reply(d.reply)...)
	}
	return sent
}

// run exchanges what is sent until the terminal sends nothing more.
func (d *delivery) run(c api.Command) api.Errno {
	b, e := d.terminal.Send(c)
	for range 1 << 12 {
		if len(b) == 0 {
			break
		}
		var sent []byte
		for _, part := range split(d.r, d.answer(b)) {
			sent = append(sent, d.terminal.Receive(part)...)
		}
		b = sent
	}
	return e
}

// delivered is the definition of what the terminal receives.
func delivered(c api.Command, r api.Response) api.Response {
	switch {
	case len(r.Data) > api.MaxData || !(r.SW >= 0x6100 && r.SW <= 0x6fff || r.SW >= 0x9000 && r.SW <= 0x9fff):
		r = api.Response{SW: api.SWUnknown}
	case !secure(c.CLA) && len(r.Data) > c.Le:
		r.Data = r.Data[:c.Le]
	}
	return r
}

// try exchanges a command and its response, and compares them with P7.3.
func (d *delivery) try(t *testing.T, c api.Command) {
	t.Helper()
	d.waits = nil
	want := c
	if len(c.Data) > 0 || c.Le == 0 {
		want.Le = 256
	}
	if e := d.run(c); e != api.OK {
		t.Fatal(show(c, true), e)
	}
	if len(d.waits) != 1 || d.waits[0] != show(want, true) {
		t.Fatal(show(c, true), d.waits)
	}
	if got, want := showResponse(d.terminal.Response()), showResponse(delivered(c, d.reply), true); got != want || d.terminal.Failed() != api.OK {
		t.Fatalf("%.200s: %.200s instead of %.200s, %d", show(c, true), got, want, d.terminal.Failed())
	}
}

func TestDelivery(t *testing.T) {
	r := rand.New(rand.NewPCG(7, 3))
	in := []int{0xd6, 0xa4, 0xe2}
	d := delivery{card: tzero.NewCard(in), terminal: tzero.NewTerminal(), r: r}
	sizes := []int{0, 1, 2, 4, 5, 255, 256, 257, 511, 512, 513, 1000}
	for range 4 {
		for _, cla := range []int{0x00, 0x03, 0x80, 0x04, 0x87, 0x17, 0x40, 0x7f, 0xfe} {
			for _, sw := range []int{api.SWOK, api.SWWarning, api.SWTries + 2, 0x6200, 0x6c05, 0x6fff, 0x9fff, 0x6000, 0, -1} {
				d.reply = api.Response{Data: filled(sizes[r.IntN(len(sizes))]), SW: sw}
				d.try(t, api.Command{CLA: cla, INS: []int{0xb0, 0xa4}[r.IntN(2)], P1: r.IntN(256), P2: r.IntN(256)})
				d.try(t, api.Command{CLA: cla, INS: 0xa4, P1: 4, Data: filled(1 + r.IntN(255))})
				d.try(t, api.Command{CLA: cla, INS: 0xd6, P2: 4, Data: filled([]int{1, 255, 2}[r.IntN(3)]), Le: []int{1, 4, 255, 256}[r.IntN(4)]})
				if secure(cla) {
					d.try(t, api.Command{CLA: cla, INS: 0xb0, Data: filled(9), Le: 256}) // protected commands always have data
					continue
				}
				for _, le := range []int{1, 4, 255, 256} {
					d.reply.Data = filled(append(sizes, le-1, le, le, le+1)[r.IntN(len(sizes)+4)])
					d.try(t, api.Command{CLA: cla, INS: 0xb0, P1: 1, P2: 0xff, Le: le})
				}
			}
		}
	}
}

func TestDeliveryOfAllInstructions(t *testing.T) {
	d := delivery{r: rand.New(rand.NewPCG(7, 4)), reply: api.Response{Data: filled(4), SW: api.SWOK}}
	for cla := range 255 {
		for ins := range 256 {
			if ins>>4 == 6 || ins>>4 == 9 || ins == 0xc0 {
				continue
			}
			d.card, d.terminal = tzero.NewCard([]int{ins}), tzero.NewTerminal()
			d.try(t, api.Command{CLA: cla, INS: ins, Data: filled(3), Le: 4})
			d.try(t, api.Command{CLA: cla, INS: ins})
			if !secure(cla) {
				d.card = tzero.NewCard(nil)
				d.try(t, api.Command{CLA: cla, INS: ins, Le: 4})
				d.try(t, api.Command{CLA: cla, INS: ins})
			}
		}
	}
}

func TestDeliveryOfTheLongestResponse(t *testing.T) {
	d := delivery{card: tzero.NewCard([]int{0xd6}), terminal: tzero.NewTerminal(), r: rand.New(rand.NewPCG(7, 5))}
	for _, n := range []int{api.MaxData - 1, api.MaxData, api.MaxData + 1} {
		d.reply = api.Response{Data: filled(n), SW: api.SWOK}
		d.try(t, api.Command{CLA: 0x04, INS: 0xd6, Data: filled(3), Le: 256})
		d.try(t, api.Command{CLA: 0x00, INS: 0xd6, Data: filled(3), Le: 256})
		d.try(t, api.Command{CLA: 0x00, INS: 0xb0, Le: 256})
	}
}

// The examples of the chapter, and numbers that are no instructions.

func TestExamples(t *testing.T) {
	card := tzero.NewCard([]int{0xa4, 0xd6})
	for _, s := range []struct{ receive, want, command, reply, sent string }{
		{"00 a4 00 00 02", "a4", none, "", ""},
		{"3f 00", "", "true 0 164 0 0 256 3f00", "10* 9000", "610a"},
		{"00 c0 00 00 0a", "c0" + hex(filled(10)) + "9000", none, "", ""},
		{"00 b0 00 00 04", "", "true 0 176 0 0 4 ", "01020304 9000", "b0010203049000"},
		{"00 b0 00 00 04", "", "true 0 176 0 0 4 ", "0102 6282", "6102"},
		{"00 c0 00 00 02", "c001026282", none, "", ""},
		{"00 c0 00 00 00", "6985", none, "", ""},
	} {
		if got := hex(card.Receive(raw(s.receive))); got != s.want {
			t.Error(s.receive, got)
		}
		if got := show(card.Command()); got != s.command {
			t.Error(s.receive, got)
		}
		if s.reply == "" {
			continue
		}
		b := raw(s.reply)
		n := len(b) - 2
		if got := hex(card.Reply(api.Response{Data: b[:n], SW: int(b[n])<<8 | int(b[n+1])})); got != s.sent {
			t.Error(s.receive, got)
		}
	}
}

func TestInstructionsOutOfRange(t *testing.T) {
	card := tzero.NewCard([]int{-1, 256, 256 + 0xb0, 0xb0 - 256, 1<<32 + 0xb0, math.MaxInt, math.MinInt, math.MinInt + 0xb0, 0xd6})
	for ins := range 256 {
		if ins>>4 == 6 || ins>>4 == 9 || ins == 0xc0 {
			continue
		}
		got := card.Receive([]byte{0, byte(ins), 0, 0, 0x04})
		if want := bytes.Equal(got, []byte{0xd6}); want != (ins == 0xd6) || !want && len(got) > 0 {
			t.Error(ins, hex(got))
		}
		card.Receive(filled(4))
		card.Reply(api.Response{SW: api.SWOK})
	}
}
