package tone_test

import (
	"bytes"
	"fmt"
	"math/rand/v2"
	"testing"

	"smartcard/apdu"
	"smartcard/api"
	"smartcard/octets"
	"smartcard/tone"
)

// What happens to a transmission, besides that it arrives: it is lost, or a bit is inverted.
const (
	arrives = iota
	lost
	damaged
	accidents
)

// exchange is an exchange of a command between two sides, on a line on which what happens to the first transmissions is planned.
type exchange struct {
	card     *tone.Card
	terminal *tone.Terminal
	plan     []int
	count    int // transmissions
	response []byte
	extend   int // what the card asks for before it replies; 0: nothing
	executed []string
}

// carry returns what arrives, and whether it does.
func (x *exchange) carry(b []byte) ([]byte, bool) {
	what := arrives
	if x.count < len(x.plan) {
		what = x.plan[x.count]
	}
	x.count++
	switch what {
	case lost:
		return nil, false
	case damaged:
		return flipped(b, 29*x.count), true
	}
	return b, true
}

// answer is what the card does with a transmission: it executes a command that waits.
func (x *exchange) answer(b []byte) []byte {
	if sent := x.card.Receive(b); len(sent) > 0 {
		return sent
	}
	command, ok := x.card.Command()
	switch {
	case !ok:
		return nil
	case x.extend > 0:
		n := x.extend
		x.extend = 0
		return x.card.Extend(n)
	}
	x.executed = append(x.executed, octets.Hex(command))
	return x.card.Reply(x.response)
}

// run carries transmissions until the terminal sends nothing more. It reports whether the sides came to an end.
func (x *exchange) run(b []byte) bool {
	for range 1 << 20 {
		if len(b) == 0 {
			return true
		}
		got, ok := x.carry(b)
		if ok {
			got = x.answer(got)
			ok = len(got) > 0
		}
		if ok {
			got, ok = x.carry(got)
		}
		if ok {
			b = x.terminal.Receive(got)
		} else {
			b = x.terminal.Timeout()
		}
	}
	return false
}

// deliver sends a command, and returns a text that tells what went wrong.
func (x *exchange) deliver(command []byte) string {
	if !x.run(x.terminal.Send(command)) {
		return "the sides do not come to an end"
	}
	if len(x.executed) != 1 || x.executed[0] != octets.Hex(command) {
		return fmt.Sprintf("executed: %.200q", x.executed)
	}
	if got, ok := x.terminal.Response(); !ok || octets.Hex(got) != octets.Hex(x.response) {
		return fmt.Sprintf("the response is %.200s", text(got, ok))
	}
	if e := x.terminal.Failed(); e != api.OK {
		return fmt.Sprint("Failed is ", e)
	}
	return ""
}

// P8.7

func TestPerfectLine(t *testing.T) {
	sizes := []int{0, 1, 2, 5, 31, 32, 33, 63, 64, 65, 96, 253, 254, 255, 508, 509, 600}
	for _, sum := range sums {
		for _, ifs := range []int{1, 2, 3, 31, 32, 33, 100, 253, 254} {
			for _, offer := range []int{0, 1, 2, 33, 254} {
				card, terminal := tone.NewCard(ifs, sum), tone.NewTerminal(ifs, sum)
				if offer > 0 {
					x := exchange{card: card, terminal: terminal}
					if !x.run(terminal.Offer(offer)) || terminal.Failed() != api.OK {
						t.Fatal(sum, ifs, offer)
					}
				}
				for i, n := range sizes {
					x := exchange{card: card, terminal: terminal, response: filled(sizes[(i*5+offer)%len(sizes)]), extend: i % 2 * i}
					if wrong := x.deliver(filled(n)); wrong != "" {
						t.Fatal(sum, ifs, offer, n, wrong)
					}
				}
			}
		}
	}
}

func TestPerfectLineLimits(t *testing.T) {
	for _, ifs := range []int{1, 32, 254} {
		x := exchange{card: tone.NewCard(ifs, api.SumCRC), terminal: tone.NewTerminal(ifs, api.SumCRC), response: filled(api.MaxData + 2)}
		if wrong := x.deliver(filled(api.MaxData + 16)); wrong != "" {
			t.Fatal(ifs, wrong)
		}
	}
}

// P1, as far as this layer reaches: commands and responses are decoded as they were encoded.

func TestRoundTrips(t *testing.T) {
	for _, c := range []api.Command{{CLA: 0x80, INS: 0xe8, P1: 1, P2: 2}, {INS: 0xb0, Le: 256}, {INS: 0xd6, Data: filled(255)}, {INS: 0xa4, P1: 4, Data: filled(7), Le: 1}, {INS: 0xd6, Data: filled(api.MaxData - 1), Le: api.MaxData, Long: true}} {
		for _, r := range []api.Response{{SW: api.SWOK}, {Data: filled(40), SW: api.SWWarning}, {Data: filled(api.MaxData), SW: 0x61ff}} {
			command, e := apdu.Encode(c)
			response, e2 := apdu.EncodeResponse(r)
			if e != api.OK || e2 != api.OK {
				t.Fatal(e, e2)
			}
			x := exchange{card: tone.NewCard(254, api.SumLRC), terminal: tone.NewTerminal(254, api.SumLRC), response: response}
			if wrong := x.deliver(command); wrong != "" {
				t.Fatal(wrong)
			}
			if got, e := apdu.Decode(raw(x.executed[0])); e != api.OK || !apdu.Same(got, c) {
				t.Errorf("%.200v: %.200v, %d", c, got, e)
			}
			b, _ := x.terminal.Response()
			if got, e := apdu.DecodeResponse(b); e != api.OK || got.SW != r.SW || !bytes.Equal(got.Data, r.Data) {
				t.Errorf("%.200v: %.200v, %d", r, got, e)
			}
		}
	}
}

// P8.8

// plans calls f with all plans that begin with p and have at most n accidents more, where f returns the number of transmissions that there were.
func plans(p []int, n int, f func(p []int) int) {
	count := f(p)
	for at := len(p); at < count && n > 0; at++ {
		for what := arrives + 1; what < accidents; what++ {
			q := make([]int, at+1)
			copy(q, p)
			q[at] = what
			plans(q, n-1, f)
		}
	}
}

func TestRecovery(t *testing.T) {
	for _, c := range []struct{ earlier, ifs, command, response, extend int }{
		{0, 32, 5, 2, 0}, {2, 32, 5, 2, 3}, {0, 2, 5, 2, 0}, {0, 2, 5, 2, 1}, {2, 2, 5, 2, 0}, {0, 32, 5, 70, 0}, {40, 32, 5, 70, 255}, {40, 3, 5, 40, 9}, {2, 3, 5, 40, 9}, {0, 32, 0, 0, 0}, {2, 32, 0, 0, 1},
	} {
		runs := 0
		plans(nil, 4, func(p []int) int {
			runs++
			sum := runs % 2
			x := exchange{card: tone.NewCard(c.ifs, sum), terminal: tone.NewTerminal(c.ifs, sum), response: filled(c.response), extend: c.extend}
			if c.earlier > 0 { // the sides do not begin with the number 0
				earlier := exchange{card: x.card, terminal: x.terminal, response: filled(c.earlier)}
				if wrong := earlier.deliver(filled(2)); wrong != "" {
					t.Fatal(c, p, "the command before:", wrong)
				}
			}
			x.plan = p
			if wrong := x.deliver(filled(c.command)); wrong != "" {
				t.Fatal(c, p, wrong)
			}
			// what the accidents have left behind does not matter
			next := exchange{card: x.card, terminal: x.terminal, response: filled(40)}
			if wrong := next.deliver(filled(3)); wrong != "" {
				t.Fatal(c, p, "the next command:", wrong)
			}
			return x.count
		})
		if runs < 100 {
			t.Error(c, runs)
		}
	}
}

func TestRecoveryOfManyCommands(t *testing.T) {
	r := rand.New(rand.NewPCG(8, 8))
	for n := range 400 {
		sum := n % 2
		ifs := 1 + r.IntN(254)>>r.IntN(8)
		card, terminal := tone.NewCard(ifs, sum), tone.NewTerminal(ifs, sum)
		if n%3 == 0 {
			x := exchange{card: card, terminal: terminal, plan: []int{r.IntN(3), r.IntN(3), r.IntN(3), r.IntN(3)}}
			if !x.run(terminal.Offer(1+r.IntN(254))) || terminal.Failed() != api.OK {
				t.Fatal(n, terminal.Failed())
			}
		}
		for range 30 {
			x := exchange{card: card, terminal: terminal, response: filled(r.IntN(4*ifs + 2)), extend: r.IntN(2) * (1 + r.IntN(255))}
			x.plan = make([]int, 1+r.IntN(30))
			for range 4 {
				x.plan[r.IntN(len(x.plan))] = r.IntN(accidents)
			}
			if wrong := x.deliver(filled(r.IntN(4*ifs + 2))); wrong != "" {
				t.Fatal(n, x.plan, wrong)
			}
		}
	}
}

// The bound of P8.8 is that of a terminal that bears MaxFailures: a line on which nothing arrives ends a command.

func TestDeadLine(t *testing.T) {
	for _, sum := range sums {
		for what := arrives + 1; what < accidents; what++ {
			x := exchange{card: tone.NewCard(32, sum), terminal: tone.NewTerminal(32, sum), response: filled(2), plan: make([]int, 100)}
			for i := range x.plan {
				x.plan[i] = what
			}
			want := map[int]api.Errno{lost: api.ErrTimeout, damaged: api.ErrProtocol}[what]
			if !x.run(x.terminal.Send(filled(5))) || x.terminal.Failed() != want || len(x.executed) != 0 {
				t.Error(sum, what, x.terminal.Failed(), x.executed)
			}
		}
	}
}
