package atr_test

import (
	"bytes"
	"math/bits"
	"slices"
	"testing"

	"smartcard/api"
	"smartcard/atr"
	"smartcard/octets"
)

// pps is the definition of the errors of a PPS, and of its parts: its protocol, and its further bytes by the bits that announce them.
func pps(b []byte) (int, map[int]byte, api.Errno) {
	if len(b) < 3 || b[0] != 0xff || b[1] >= 0x80 || len(b) != 3+bits.OnesCount8(b[1]>>4) {
		return 0, nil, api.ErrForm
	}
	if lrc(b) != 0 {
		return 0, nil, api.ErrSum
	}
	further, i := map[int]byte{}, 2
	for _, bit := range []int{0x10, 0x20, 0x40} {
		if int(b[1])&bit != 0 {
			further[bit] = b[i]
			i++
		}
	}
	return int(b[1] & 15), further, api.OK
}

// exchanges returns strings that have the form of a PPS with right sums, for all second bytes.
func exchanges() [][]byte {
	var all [][]byte
	for head := range 0x80 {
		for _, values := range []string{"\x00\x00\x00", "\x11\x22\x33", "\x11\x11\x11", "\xff\xff\xff"} {
			b := append([]byte{0xff, byte(head)}, values[:bits.OnesCount8(byte(head)>>4)]...)
			all = append(all, summed(b...))
		}
	}
	return all
}

// noExchanges returns strings that are no PPS.
func noExchanges() [][]byte {
	all := [][]byte{nil, {}, {0xff}, {0xff, 0}, {0xff, 1}, {0xff, 0x11, 0xee}, {0, 0, 0}, {1, 0, 1}, {0xff, 0x80, 0x7f}, {0xfe, 1, 0xff}, {0x7f, 1, 0x7e}, {0, 0xff, 0xff}, make([]byte, 70000)}
	for _, b := range exchanges() {
		all = append(all, b[:len(b)-1], summed(b...), append(bytes.Clone(b), 0), append(bytes.Clone(b), 0, 0, 0))
		flipped := bytes.Clone(b)
		flipped[1] |= 0x80
		flipped[len(b)-1] ^= 0x80
		all = append(all, flipped, append(bytes.Clone(flipped), 0))
		for bit := range 8 {
			damaged := bytes.Clone(b)
			damaged[len(b)-1] ^= 1 << bit
			all = append(all, damaged)
			damaged = bytes.Clone(b)
			damaged[0] ^= 1 << bit
			all = append(all, damaged)
		}
	}
	return all
}

// P5.4

func TestRequest(t *testing.T) {
	for protocol, text := range []string{"ff00ff", "ff01fe"} {
		if b, e := atr.Request(protocol); e != api.OK || octets.Hex(b) != text {
			t.Error(protocol, octets.Hex(b), e)
		}
	}
	for _, n := range wrong {
		if b, e := atr.Request(n); e != api.ErrArg || len(b) != 0 {
			t.Error(n, octets.Hex(b), e)
		}
	}
}

// P5.5

func TestAnswer(t *testing.T) {
	for _, protocols := range offers {
		a := inverse(with(answer(protocols, at(1, 0, 0x96, 0)), 1, 2))
		accepted := 0
		for _, request := range slices.Concat(exchanges(), noExchanges()) {
			protocol, _, want := pps(request)
			if want == api.OK && !slices.Contains(protocols, protocol) {
				want = api.ErrProtocol
			}
			b, n, e := atr.Answer(a, request)
			if e != want {
				t.Fatal(protocols, octets.Hex(request), octets.Hex(b), n, e)
			}
			if e != api.OK {
				if len(b) != 0 || n != 0 {
					t.Error(protocols, octets.Hex(request), octets.Hex(b), n, e)
				}
				continue
			}
			accepted++
			if n != protocol || !bytes.Equal(b, summed(0xff, byte(protocol))) {
				t.Error(protocols, octets.Hex(request), octets.Hex(b), n, e)
			}
		}
		if accepted != 32*len(protocols) {
			t.Error(protocols, accepted)
		}
	}
}

func TestAnswerErrors(t *testing.T) {
	both := answer([]int{0, 1})
	for _, c := range []struct {
		a    api.ATR
		text string
		want api.Errno
	}{
		{answer([]int{0}), "ff00ff", api.OK},
		{answer([]int{0}), "ff01fe", api.ErrProtocol},
		{answer([]int{1}), "ff00ff", api.ErrProtocol},
		{answer([]int{1}), "ff01fe", api.OK},
		{both, "ff1195 7b", api.OK},
		{both, "ff02fd", api.ErrProtocol},
		{both, "ff0ff0", api.ErrProtocol},
		{both, "ff02ff", api.ErrSum},
		{both, "ff0fff", api.ErrSum},
		{both, "ff01ff", api.ErrSum},
		{both, "ff81ff", api.ErrForm},
		{both, "ff817e", api.ErrForm},
		{both, "ff11ee", api.ErrForm},
		{both, "ff01fe00", api.ErrForm},
		{both, "ff01", api.ErrForm},
		{both, "ff", api.ErrForm},
		{both, "", api.ErrForm},
		{both, "fe01ff", api.ErrForm},
		{both, "fe0100", api.ErrForm},
	} {
		if _, _, e := atr.Answer(c.a, raw(c.text)); e != c.want {
			t.Error(show(c.a), c.text, e)
		}
	}
	for _, a := range append(mistakes(), tooLong()...) {
		for _, text := range []string{"ff00ff", "ff01fe", "ff0100", "ff", "", "ff02fd"} {
			if b, n, e := atr.Answer(a, raw(text)); e != api.ErrArg || len(b) != 0 || n != 0 {
				t.Error(show(a), text, octets.Hex(b), n, e)
			}
		}
	}
}

// P5.6

// accepted is the definition of Accept.
func accepted(request, answer []byte) (int, api.Errno) {
	asked, offered, e := pps(request)
	if e != api.OK {
		return 0, e
	}
	protocol, chosen, e := pps(answer)
	if e != api.OK {
		return 0, e
	}
	for bit, x := range chosen {
		if y, ok := offered[bit]; !ok || x != y {
			return 0, api.ErrProtocol
		}
	}
	if protocol != asked {
		return 0, api.ErrProtocol
	}
	return protocol, api.OK
}

// sameAccept compares the package's Accept with the definition, and reports whether it accepts.
func sameAccept(t *testing.T, request, answer []byte) bool {
	t.Helper()
	want, wantE := accepted(request, answer)
	n, e := atr.Accept(request, answer)
	if n != want || e != wantE {
		t.Fatal(octets.Hex(request), octets.Hex(answer), n, e)
	}
	return e == api.OK
}

func TestAccept(t *testing.T) {
	for _, c := range []struct {
		request, answer string
		protocol        int
		want            api.Errno
	}{
		{"ff00ff", "ff00ff", 0, api.OK},
		{"ff01fe", "ff01fe", 1, api.OK},
		{"ff05fa", "ff05fa", 5, api.OK},
		{"ff00ff", "ff01fe", 0, api.ErrProtocol},
		{"ff01fe", "ff00ff", 0, api.ErrProtocol},
		// the answer may leave out further bytes, but neither add nor change them
		{"ff1196 78", "ff01fe", 1, api.OK},
		{"ff1196 78", "ff119678", 1, api.OK},
		{"ff1196 78", "ff119779", 0, api.ErrProtocol},
		{"ff01fe", "ff119678", 0, api.ErrProtocol},
		{"ff01fe", "ff1100ee", 0, api.ErrProtocol},
		{"ff1196 78", "ff219648", 0, api.ErrProtocol},
		{"ff71010203 8e", "ff51010 3ac", 1, api.OK},
		{"ff71010203 8e", "ff51010 2ad", 0, api.ErrProtocol},
		{"ff71010203 8e", "ff71010 2038e", 1, api.OK},
		{"ff51010 3ac", "ff71010 2038e", 0, api.ErrProtocol},
		// the request's errors come before the answer's, and ErrForm before ErrSum
		{"ff01", "ff01fe", 0, api.ErrForm},
		{"ff01", "ff01ff", 0, api.ErrForm},
		{"ff01ff", "ff01fe", 0, api.ErrSum},
		{"ff01ff", "ff01", 0, api.ErrSum},
		{"ff01ff", "", 0, api.ErrSum},
		{"ff01fe", "ff01", 0, api.ErrForm},
		{"ff01fe", "", 0, api.ErrForm},
		{"ff01fe", "ff01ff", 0, api.ErrSum},
		{"ff01fe", "ff00fe", 0, api.ErrSum},
		{"", "", 0, api.ErrForm},
	} {
		if n, e := atr.Accept(raw(c.request), raw(c.answer)); n != c.protocol || e != c.want {
			t.Error(c.request, c.answer, n, e)
		}
	}
}

func TestAcceptOfAllPairs(t *testing.T) {
	n := 0
	for _, request := range exchanges() {
		for _, answer := range exchanges() {
			if sameAccept(t, request, answer) {
				n++
			}
		}
	}
	if n < 1000 {
		t.Error(n)
	}
	right := raw("ff119678")
	var few [][]byte
	for i, b := range noExchanges() {
		sameAccept(t, right, b)
		sameAccept(t, b, right)
		if i%50 == 0 {
			few = append(few, b)
		}
	}
	for _, request := range few {
		for _, answer := range few {
			sameAccept(t, request, answer)
		}
	}
}

// P5.9

func TestAgreement(t *testing.T) {
	agreed := 0
	for _, protocols := range offers {
		a := answer(protocols)
		for _, request := range slices.Concat(exchanges(), noExchanges()) {
			b, n, e := atr.Answer(a, request)
			if e != api.OK {
				continue
			}
			agreed++
			if m, e := atr.Accept(request, b); m != n || e != api.OK {
				t.Error(octets.Hex(request), octets.Hex(b), n, m, e)
			}
		}
		for _, protocol := range protocols {
			request, _ := atr.Request(protocol)
			b, n, e := atr.Answer(a, request)
			if m, f := atr.Accept(request, b); n != protocol || m != protocol || e != api.OK || f != api.OK {
				t.Error(protocols, protocol, n, m, e, f)
			}
		}
	}
	if agreed < 100 {
		t.Error(agreed)
	}
}

// The rule 'Results', for the exchange.

func TestExchangesAreNewMemory(t *testing.T) {
	a := answer([]int{0, 1})
	whole := append(raw("ff119678"), 0xee, 0xee)
	request := whole[:4]
	b, _, e := atr.Answer(a, request)
	if e != api.OK {
		t.Fatal(e)
	}
	r, _ := atr.Request(1)
	for _, x := range [][]byte{b[:cap(b)], r[:cap(r)]} {
		for i := range x {
			x[i] ^= 0xff
		}
	}
	if octets.Hex(whole) != "ff119678eeee" {
		t.Error("Answer shares memory with its argument, or changes it")
	}
	if b, _, _ := atr.Answer(a, request); octets.Hex(b) != "ff01fe" {
		t.Error("Answer keeps its result")
	}
	if r, _ := atr.Request(1); octets.Hex(r) != "ff01fe" {
		t.Error("Request keeps its result")
	}
	if n, e := atr.Accept(request, raw("ff01fe")); n != 1 || e != api.OK || octets.Hex(whole) != "ff119678eeee" {
		t.Error("Accept changes its argument", n, e)
	}
}
