package tone_test

import (
	"fmt"
	"math"
	"math/rand/v2"
	"strconv"
	"testing"

	"smartcard/api"
	"smartcard/octets"
	"smartcard/tone"
)

var (
	isFine     = step{"failed", strconv.Itoa(int(api.OK))}
	isWrong    = step{"failed", strconv.Itoa(int(api.ErrProtocol))}
	isLate     = step{"failed", strconv.Itoa(int(api.ErrTimeout))}
	noResponse = step{"response", "none"}
)

// P8.4

func TestTerminalReceive(t *testing.T) {
	sends := step{"send 01", "I 0 last 01"}
	chains := step{"send 010203", "I 0 more 01"} // with 1 as the card's greatest information field
	offers := step{"offer 7", "S ifs request 07"}
	answers := step{"receive I 0 last 9000", ""}
	playTerminal(t, []script{
		{"rule 1: nothing happens while nothing is in progress", 32, steps(
			step{"receive I 0 last 9000", ""}, step{"receive I 0 more 01", ""}, step{"receive R 0 fine", ""}, step{"receive R 1 other", ""}, step{"receive S ifs request 01", ""}, step{"receive S abort request -", ""}, step{"receive S wtx request 01", ""},
			step{"receive damaged R 0 fine", ""}, step{"receive bytes -", ""}, noResponse, isFine,
			sends, answers, step{"receive I 1 last 05", ""}, step{"receive I 0 last 9000", ""}, step{"receive S ifs request 01", ""}, step{"receive S abort request -", ""}, step{"response", "9000"}, isFine,
			step{"send 32*", "I 1 last " + long(32)}, step{"receive I 1 last 06", ""}, step{"response", "06"})},
		{"rule 1: nothing happens after a failure", 32, steps(sends, step{"receive S abort request -", ""}, isWrong,
			step{"receive I 0 last 9000", ""}, step{"receive R 0 fine", ""}, step{"receive R 1 fine", ""}, step{"receive S wtx request 01", ""}, step{"receive bytes -", ""}, noResponse, isWrong)},
		{"rule 2: the answer to an offer", 32, steps(offers,
			step{"receive S ifs answer 08", "S ifs request 07"}, step{"receive S ifs request 07", "S ifs request 07"}, step{"receive S wtx answer 07", "S ifs request 07"}, step{"receive damaged S ifs answer 07", "S ifs request 07"},
			step{"receive NAD5 S ifs answer 07", "S ifs request 07"}, step{"receive bytes -", "S ifs request 07"}, step{"receive I 0 last 9000", "S ifs request 07"}, step{"receive R 0 fine", "S ifs request 07"},
			step{"receive S abort request -", "S ifs request 07"}, step{"receive S wtx request 07", "S ifs request 07"}, isFine, noResponse,
			step{"receive S ifs answer 07", ""}, step{"receive S ifs answer 07", ""}, isFine,
			sends, step{"receive I 0 last 8*", "R 0 other"}, step{"receive I 0 last 7*", ""}, step{"response", long(7)})},
		{"rule 2: an offer that was not answered", 32, steps(offers, times(10, step{"receive R 0 fine", "S ifs request 07"}), isFine, step{"receive R 0 fine", ""}, isWrong, step{"receive S ifs answer 07", ""}, isWrong, step{"send 01", ""}, step{"offer 7", ""})},
		{"rule 3: damage", 32, steps(sends,
			step{"receive damaged I 0 last 9000", "R 0 sum"}, step{"receive damaged S wtx request 01", "R 0 sum"}, step{"receive bytes -", "R 0 other"}, step{"receive bytes 0000", "R 0 other"}, step{"receive NAD5 I 0 last 9000", "R 0 other"},
			step{"receive NAD5 S abort request -", "R 0 other"}, step{"receive NAD5 R 0 fine", "R 0 other"}, step{"receive I 0 last 33*", "R 0 other"}, step{"receive I 1 last 33*", "R 0 other"},
			isFine, step{"receive I 0 more 32*", "R 1 fine"}, step{"receive damaged I 1 last 9000", "R 1 sum"}, step{"receive bytes -", "R 1 other"}, step{"receive I 1 last 9000", ""}, step{"response", long(32) + "9000"})},
		{"rule 4: the number of an I-block", 32, steps(sends,
			step{"receive I 1 last 05", "R 0 other"}, step{"receive I 1 more 05", "R 0 other"}, noResponse, step{"receive I 0 more 05", "R 1 fine"}, step{"receive I 0 more 05", "R 1 other"}, step{"receive I 0 last 05", "R 1 other"}, noResponse,
			step{"receive I 1 more 06", "R 0 fine"}, step{"receive I 0 last 07", ""}, step{"response", "050607"}, isFine,
			step{"send 02", "I 1 last 02"}, step{"receive I 0 last 08", "R 1 other"}, step{"receive I 1 last 08", ""}, step{"response", "08"})},
		{"rule 4: not before all pieces are sent", 1, steps(chains,
			step{"receive I 0 last 9000", "R 0 other"}, step{"receive I 1 last 9000", "R 0 other"}, step{"receive I 0 more 90", "R 0 other"}, noResponse,
			step{"receive R 1 fine", "I 1 more 02"}, step{"receive I 0 last 9000", "R 0 other"}, step{"receive R 0 fine", "I 0 last 03"}, step{"receive I 0 last 9000", ""}, step{"response", "9000"})},
		{"rule 4: empty blocks", 32, steps(step{"send -", "I 0 last -"}, step{"receive I 0 more -", "R 1 fine"}, noResponse, step{"receive I 1 last -", ""}, step{"response", "-"}, isFine)},
		{"rule 5: the last I-block again", 1, steps(chains,
			step{"receive R 0 fine", "I 0 more 01"}, step{"receive R 0 sum", "I 0 more 01"}, step{"receive R 0 other", "I 0 more 01"}, step{"receive R 1 other", "I 1 more 02"}, step{"receive R 1 fine", "I 1 more 02"},
			step{"receive R 0 sum", "I 0 last 03"}, step{"receive R 0 fine", "I 0 last 03"}, step{"receive R 1 fine", "R 0 fine"}, step{"receive R 1 other", "R 0 fine"}, step{"receive R 0 sum", "I 0 last 03"}, isFine)},
		{"rule 6: more time", 1, steps(chains, step{"receive S wtx request 01", "S wtx answer 01"}, step{"receive S wtx request ff", "S wtx answer ff"}, step{"receive R 1 fine", "I 1 more 02"}, step{"receive R 0 fine", "I 0 last 03"},
			step{"receive S wtx request 10", "S wtx answer 10"}, answers, step{"response", "9000"})},
		{"rule 6: the card's greatest information field", 1, steps(chains, step{"receive S ifs request fe", "S ifs answer fe"}, step{"receive R 1 fine", "I 1 more 02"}, step{"receive S ifs request 02", "S ifs answer 02"}, step{"receive R 0 fine", "I 0 last 03"}, // the pieces are as they were
			answers, step{"send 010203", "I 1 more 0102"}, step{"receive R 0 fine", "I 0 last 03"})},
		{"rule 6: abort", 1, steps(chains, step{"receive S abort request -", ""}, isWrong, noResponse, step{"timeout", ""}, step{"receive R 1 fine", ""}, step{"send 01", ""}, step{"offer 1", ""}, isWrong)},
		{"rule 6: all other S-blocks", 32, steps(sends,
			step{"receive S resync request -", "R 0 other"}, step{"receive S resync answer -", "R 0 other"}, step{"receive S abort answer -", "R 0 other"}, step{"receive S ifs answer 20", "R 0 other"}, step{"receive S wtx answer 01", "R 0 other"},
			isFine, answers, step{"response", "9000"})},
	})
}

func TestTerminalFailures(t *testing.T) {
	bears := func(s ...step) []step {
		var all []step
		for i := range tone.MaxFailures {
			all = append(all, s[i%len(s)])
		}
		return append(all, isFine)
	}
	sends := step{"send 0102", "I 0 more 01"} // with 1 as the card's greatest information field
	damage := step{"receive bytes -", "R 0 other"}
	late := step{"timeout", "R 0 other"}
	again := step{"receive R 0 fine", "I 0 more 01"}
	last := step{"receive R 1 fine", "I 1 last 02"}
	var scripts []script
	for name, s := range map[string]step{
		"damage": {"receive damaged I 0 last 01", "R 0 sum"}, "an odd transmission": damage, "a wrong number": {"receive I 1 last 01", "R 0 other"}, "an early answer": {"receive I 0 last 01", "R 0 other"},
		"a repetition": again, "an S-block": {"receive S resync request -", "R 0 other"}, "an answer": {"receive S wtx answer 01", "R 0 other"}, "NAD": {"receive NAD5 I 0 last 01", "R 0 other"},
	} {
		scripts = append(scripts, script{name, 1, steps(sends, bears(s), step{s.call, ""}, isWrong, noResponse, step{s.call, ""}, step{"timeout", ""}, isWrong)},
			script{name + ", then a timeout", 1, steps(sends, bears(s), step{"timeout", ""}, isLate, noResponse, step{"timeout", ""}, step{s.call, ""}, isLate)})
	}
	scripts = append(scripts,
		script{"after all pieces", 1, steps(sends, last, bears(step{"receive R 0 fine", "R 0 fine"}), step{"receive R 0 fine", ""}, isWrong)},
		script{"timeouts", 1, steps(sends, bears(late), step{"timeout", ""}, isLate)},
		script{"timeouts, then damage", 1, steps(sends, bears(late), step{"receive bytes -", ""}, isWrong)},
		script{"mixed", 1, steps(sends, bears(late, damage, again), step{"receive R 0 fine", ""}, isWrong)},
		script{"an offer", 1, steps(step{"offer 5", "S ifs request 05"}, bears(step{"timeout", "S ifs request 05"}), step{"timeout", ""}, isLate)},
		script{"an offer, mixed", 1, steps(step{"offer 5", "S ifs request 05"}, bears(step{"timeout", "S ifs request 05"}, step{"receive bytes -", "S ifs request 05"}), step{"receive bytes -", ""}, isWrong)},
		// progress
		script{"the next piece is progress", 1, steps(sends, bears(damage), last, bears(step{"receive bytes -", "R 0 other"}), step{"timeout", ""}, isLate)},
		script{"more time is progress", 1, steps(sends, bears(damage), step{"receive S wtx request 01", "S wtx answer 01"}, bears(damage), step{"timeout", ""}, isLate)},
		script{"a size is progress", 1, steps(sends, bears(damage), step{"receive S ifs request 05", "S ifs answer 05"}, bears(damage), step{"timeout", ""}, isLate)},
		script{"an I-block is progress", 1, steps(sends, last, bears(damage), step{"receive I 0 more 01", "R 1 fine"}, bears(step{"timeout", "R 1 other"}), step{"receive I 1 more 02", "R 0 fine"}, bears(late), step{"receive I 0 last 03", ""}, step{"response", "010203"}, isFine)},
		script{"a command is new", 1, steps(sends, last, bears(damage), step{"receive I 0 last 9000", ""}, step{"send 03", "I 0 last 03"}, bears(step{"timeout", "R 1 other"}), step{"timeout", ""}, isLate)},
		script{"a command after an offer", 1, steps(step{"offer 5", "S ifs request 05"}, bears(step{"timeout", "S ifs request 05"}), step{"receive S ifs answer 05", ""}, sends, bears(late), step{"timeout", ""}, isLate)},
		script{"an offer is new", 1, steps(sends, last, bears(damage), step{"receive I 0 last 9000", ""}, step{"offer 5", "S ifs request 05"}, bears(step{"timeout", "S ifs request 05"}), step{"timeout", ""}, isLate, step{"response", "9000"})},
		script{"calls that do nothing are none", 1, steps(sends, bears(damage), step{"send 05", ""}, step{"offer 5", ""}, step{"timeout", ""}, isLate)},
	)
	playTerminal(t, scripts)
}

func TestTerminalLimit(t *testing.T) {
	// 258 blocks of 254 bytes are 65532 bytes
	fill := []step{{"offer 254", "S ifs request fe"}, {"receive S ifs answer fe", ""}, {"send 01", "I 0 last 01"}}
	whole := ""
	for i := range 258 {
		fill = append(fill, step{"receive I " + fmt.Sprint(i%2) + " more 254*", "R " + fmt.Sprint((i+1)%2) + " fine"})
		whole += long(254)
	}
	playTerminal(t, []script{
		{"the longest response", 32, steps(fill, step{"receive I 0 last 6*", ""}, step{"response", whole + long(6)}, isFine)},
		{"the longest response, with an empty block at the end", 32, steps(fill, step{"receive I 0 more 6*", "R 1 fine"}, noResponse, step{"receive I 1 last -", ""}, step{"response", whole + long(6)}, isFine)},
		{"a byte more", 32, steps(fill, step{"receive I 0 last 7*", ""}, isWrong, noResponse, step{"send 01", ""}, step{"receive I 1 last 01", ""}, noResponse)},
		{"a byte more, and the chain goes on", 32, steps(fill, step{"receive I 0 more 7*", ""}, isWrong, noResponse)},
	})
}

// P8.3, P8.5 and P8.6

func TestTerminalCalls(t *testing.T) {
	sends := step{"send 01", "I 0 last 01"}
	answers := step{"receive I 0 last 9000", ""}
	offers := step{"offer 254", "S ifs request fe"}
	playTerminal(t, []script{
		{"resting", 32, steps(noResponse, isFine, step{"timeout", ""}, isFine, step{"offer 0", ""}, step{"offer 255", ""}, step{"offer -1", ""}, step{"offer 256", ""}, step{"offer 257", ""}, step{"offer 4294967297", ""},
			sends, answers, step{"timeout", ""}, isFine, step{"offer 1", "S ifs request 01"})},
		{"busy", 32, steps(sends, step{"send 02", ""}, step{"offer 5", ""}, noResponse, isFine, step{"timeout", "R 0 other"}, noResponse, isFine, answers, step{"response", "9000"}, step{"response", "9000"}, isFine)},
		{"busy with a chain", 32, steps(sends, step{"receive I 0 more 01", "R 1 fine"}, step{"timeout", "R 1 other"}, noResponse, isFine, step{"receive I 1 last 02", ""}, step{"response", "0102"})},
		{"offering", 32, steps(offers, step{"send 01", ""}, step{"offer 5", ""}, noResponse, isFine, step{"timeout", "S ifs request fe"}, isFine, step{"receive S ifs answer fe", ""}, sends, step{"receive I 0 last 254*", ""}, step{"response", long(254)})},
		{"failed", 32, steps(sends, step{"receive S abort request -", ""}, isWrong, step{"send 01", ""}, step{"offer 5", ""}, step{"timeout", ""}, noResponse, isWrong)},
		{"a response remains until the next command", 32, steps(sends, answers, step{"response", "9000"}, offers, step{"response", "9000"}, step{"send 05", ""}, step{"response", "9000"}, step{"receive S ifs answer fe", ""}, step{"response", "9000"},
			step{"offer 0", ""}, step{"response", "9000"}, step{"send 02", "I 1 last 02"}, noResponse, step{"receive I 1 more 03", "R 0 fine"}, noResponse, step{"receive I 0 last 04", ""}, step{"response", "0304"})},
		{"pieces", 3, steps(step{"send 7*", "I 0 more " + long(7)[:6]}, step{"receive R 1 fine", "I 1 more " + long(7)[6:12]}, step{"receive R 0 fine", "I 0 last " + long(7)[12:]})},
		{"pieces without a rest", 3, steps(step{"send 6*", "I 0 more " + long(6)[:6]}, step{"receive R 1 fine", "I 1 last " + long(6)[6:]})},
		{"one piece", 3, steps(step{"send 3*", "I 0 last " + long(3)})},
		{"no bytes", 3, steps(step{"send -", "I 0 last -"})},
		{"32 is its own greatest information field", 3, steps(sends, step{"receive I 0 more 33*", "R 0 other"}, step{"receive I 0 last 32*", ""}, step{"response", long(32)})},
	})
	c := tone.NewTerminal(32, api.SumLRC)
	for _, n := range []int{math.MinInt, math.MaxInt, math.MinInt + 1} {
		if got := c.Offer(n); len(got) != 0 {
			t.Error(n, octets.Hex(got))
		}
	}
}

// terminalModel is the definition of the terminal's side.
type terminalModel struct {
	sender
	state                   string
	sum, own, other, expect int
	in, response            []byte
	complete                bool
	offered                 byte
	failures                int
	reason                  api.Errno
}

func newTerminalModel(ifs, sum int) *terminalModel {
	return &terminalModel{state: "RESTING", sum: sum, own: 32, other: ifs}
}

func (m *terminalModel) offerAgain() string {
	return supervisory(api.SIFS, false, []byte{m.offered})
}

func (m *terminalModel) failure(what string) string {
	m.failures++
	if m.failures > 10 {
		m.state, m.reason = "FAILED", api.ErrProtocol
		return ""
	}
	return what
}

func (m *terminalModel) timeout() string {
	was := m.state
	what := ""
	switch was {
	case "OFFERING":
		what = m.failure(m.offerAgain())
	case "BUSY":
		what = m.failure(ready(m.expect, api.ROther))
	}
	if was != m.state {
		m.reason = api.ErrTimeout
	}
	return what
}

func (m *terminalModel) offer(n int) string {
	if m.state != "RESTING" || n < 1 || n > 254 {
		return ""
	}
	m.state, m.offered, m.failures = "OFFERING", byte(n), 0
	return m.offerAgain()
}

func (m *terminalModel) send(b []byte) string {
	if m.state != "RESTING" {
		return ""
	}
	m.state, m.in, m.response, m.complete, m.failures = "BUSY", nil, nil, false, 0
	m.pieces = divided(b, m.other)
	return m.sendPiece()
}

func (m *terminalModel) receive(b []byte) string {
	x, reason := damage(b, m.sum, m.own)
	switch {
	case m.state == "RESTING" || m.state == "FAILED":
		return ""
	case m.state == "OFFERING":
		if reason == -1 && x.Kind == api.BlockS && x.Code == api.SIFS && x.Answer && x.Inf[0] == m.offered {
			m.state, m.own = "RESTING", int(m.offered)
			return ""
		}
		return m.failure(m.offerAgain())
	case reason != -1:
		return m.failure(ready(m.expect, reason))
	case x.Kind == api.BlockI:
		return m.receiveI(x)
	case x.Kind == api.BlockR && x.Seq == m.sentSeq:
		return m.failure(m.again())
	case x.Kind == api.BlockR && len(m.pieces) > 0:
		m.failures = 0
		return m.sendPiece()
	case x.Kind == api.BlockR:
		return m.failure(ready(m.expect, api.RFine))
	case x.Answer || x.Code == api.SResync:
		return m.failure(ready(m.expect, api.ROther))
	case x.Code == api.SAbort:
		m.state, m.reason = "FAILED", api.ErrProtocol
		return ""
	case x.Code == api.SIFS:
		m.other = int(x.Inf[0])
	}
	m.failures = 0
	return supervisory(x.Code, true, x.Inf)
}

func (m *terminalModel) receiveI(x api.Block) string {
	if x.Seq != m.expect || len(m.pieces) > 0 {
		return m.failure(ready(m.expect, api.ROther))
	}
	m.failures = 0
	m.expect = 1 - m.expect
	m.in = append(m.in, x.Inf...)
	if len(m.in) > 65536+2 {
		m.state, m.reason = "FAILED", api.ErrProtocol
		return ""
	}
	if x.More {
		return ready(m.expect, api.RFine)
	}
	m.response, m.complete, m.state = m.in, true, "RESTING"
	return ""
}

// P8.3 to P8.6 and, of the terminal, P8.9

func TestTerminalModel(t *testing.T) {
	r := rand.New(rand.NewPCG(8, 2))
	states := map[string]int{}
	for n := range 4000 {
		sum := n % 2
		ifs := 1 + r.IntN(254)>>r.IntN(8)
		c, m := tone.NewTerminal(ifs, sum), newTerminalModel(ifs, sum)
		noisy := r.IntN(4) == 0
		for i := range 60 {
			states[m.state]++
			var b []byte
			var want, did string
			switch k := r.IntN(20); {
			case k < 2 || k < 10 && m.state == "RESTING":
				size := r.IntN(4 * m.other)
				did, b, want = fmt.Sprint("send ", size), c.Send(filled(size)), m.send(filled(size))
			case k == 2 || k < 14 && m.state == "RESTING":
				n := []int{1, 2, 40, 254, 0, -1, 255, 256}[r.IntN(8)]
				did, b, want = fmt.Sprint("offer ", n), c.Offer(n), m.offer(n)
			case k == 3 || noisy && k < 16:
				did, b, want = "timeout", c.Timeout(), m.timeout()
			default:
				x := transmission(r, sum, m.own, m.expect, m.sentSeq, api.Block{Kind: api.BlockS, Code: api.SIFS, Inf: []byte{m.offered}})
				did, b, want = "receive "+octets.Hex(x), c.Receive(x), m.receive(x)
			}
			wellFormed(t, b, sum)
			if got := show(b, sum); got != want {
				t.Fatalf("side %d, call %d, %s: %q instead of %q", n, i, did, got, want)
			}
			if got, want := text(c.Response()), text(m.response, m.complete); got != want {
				t.Fatalf("side %d, call %d, %s: the response is %q instead of %q", n, i, did, got, want)
			}
			want2 := api.OK
			if m.state == "FAILED" {
				want2 = m.reason
			}
			if got := c.Failed(); got != want2 {
				t.Fatalf("side %d, call %d, %s: Failed is %d instead of %d", n, i, did, got, want2)
			}
		}
	}
	for _, s := range []string{"RESTING", "OFFERING", "BUSY", "FAILED"} {
		if states[s] < 1000 {
			t.Error(s, states[s])
		}
	}
}
