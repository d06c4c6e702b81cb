package atr

import (
	"bytes"
	"math/bits"
	"slices"

	"smartcard/api"
	"smartcard/check"
)

const (
	ppsMark   = 0xff // the first byte of a PPS
	ppsHead   = 2    // bytes before the further bytes, which PPS0 announces by the bits of the kinds
	unusedBit = 0x80 // the bit of PPS0 that is always 0
)

// choice is what a PPS chooses: a protocol, and up to three further bytes. Those that are absent are nil.
type choice struct {
	protocol int
	further  [kinds][]byte
}

// Request returns the request for a protocol (PPS).
func Request(protocol int) ([]byte, api.Errno) {
	if !isProtocol(protocol) {
		return nil, api.ErrArg
	}
	return check.Append(api.SumLRC, []byte{ppsMark, byte(protocol)})
}

// Answer returns the card's answer to a request, and the protocol that it chooses.
func Answer(a api.ATR, request []byte) ([]byte, int, api.Errno) {
	if Check(a) != api.OK {
		return nil, 0, api.ErrArg
	}
	asked, e := parseChoice(request)
	if e != api.OK {
		return nil, 0, e
	}
	if !slices.Contains(a.Protocols, asked.protocol) {
		return nil, 0, api.ErrProtocol
	}
	answer, e := Request(asked.protocol)
	return answer, asked.protocol, e
}

// Accept returns the protocol on which both sides agree, given a request and the answer to it.
func Accept(request, answer []byte) (int, api.Errno) {
	asked, e := parseChoice(request)
	if e != api.OK {
		return 0, e
	}
	chosen, e := parseChoice(answer)
	if e != api.OK {
		return 0, e
	}
	if chosen.protocol != asked.protocol {
		return 0, api.ErrProtocol
	}
	for i, b := range chosen.further {
		if b != nil && !bytes.Equal(b, asked.further[i]) {
			return 0, api.ErrProtocol
		}
	}
	return chosen.protocol, api.OK
}

// parseChoice returns what a PPS chooses.
func parseChoice(b []byte) (choice, api.Errno) {
	if len(b) < ppsHead || b[0] != ppsMark || b[1]&unusedBit != 0 {
		return choice{}, api.ErrForm
	}
	if len(b) != ppsHead+bits.OnesCount8(b[1]&kindBits)+check.Size(api.SumLRC) {
		return choice{}, api.ErrForm
	}
	content, e := check.Remove(api.SumLRC, b)
	if e != api.OK {
		return choice{}, e
	}
	c := choice{protocol: int(content[1] & lowBits)}
	left := content[ppsHead:]
	for i := range c.further {
		if content[1]&(firstBit<<i) != 0 {
			c.further[i], left = left[:1], left[1:]
		}
	}
	return c, api.OK
}
