package auth

import (
	"math"
	"slices"

	"smartcard/api"
	"smartcard/levels"
	"smartcard/mode"
	"smartcard/octets"
)

const (
	maxCount   = math.MaxInt32 // of a sequence counter
	countBytes = 4
	proofBytes = api.BlockBytes // of a cryptogram

	// Whose cryptogram it is.
	ofCard = 0
	ofHost = 1

	// The first byte of the label from which a key of the session is derived.
	labelEnc  = 1
	labelMac  = 2
	labelRMac = 3
	labelData = 4
)

// Challenge returns the card's challenge for a sequence counter.
func Challenge(mac []byte, count int) ([]byte, api.Errno) {
	if !isCount(count) {
		return nil, api.ErrArg
	}
	return mode.MAC(mac, zeros(), numbered(count))
}

// Session returns the keys of a session: l has the keys of one set, count is its sequence counter.
func Session(l []api.Key, count int, host, card []byte, level int) (api.Session, api.Errno) {
	if !isCount(count) || !isChallenge(host) || !isChallenge(card) || !levels.Valid(level) {
		return api.Session{}, api.ErrArg
	}
	if !complete(l) {
		return api.Session{}, api.ErrKey
	}
	derived := func(kind int, label byte) []byte {
		key, _ := mode.Derive(value(l, kind), octets.Join([]byte{label}, numbered(count), host, card)) // cannot fail, as the keys are complete
		return key
	}
	return api.Session{
		Enc:   derived(api.KeyEnc, labelEnc),
		Mac:   derived(api.KeyMac, labelMac),
		RMac:  derived(api.KeyMac, labelRMac),
		Data:  derived(api.KeyData, labelData),
		Level: level,
	}, api.OK
}

// Proof returns the cryptogram of the card (who is 0) or of the host (1).
func Proof(s api.Session, who int, host, card []byte) ([]byte, api.Errno) {
	if who != ofCard && who != ofHost || !isChallenge(host) || !isChallenge(card) {
		return nil, api.ErrArg
	}
	first, last := host, card
	if who == ofHost {
		first, last = card, host
	}
	return mode.MAC(s.Enc, zeros(), octets.Join(first, last))
}

func isCount(n int) bool { return n >= 0 && n <= maxCount }

func isChallenge(b []byte) bool { return len(b) == api.BlockBytes }

// numbered returns the bytes of a counter.
func numbered(count int) []byte {
	b, _ := octets.Put(count, countBytes)
	return b
}

func zeros() []byte { return make([]byte, api.BlockBytes) }

// value returns the value of the first key of a kind, nothing if there is none.
func value(l []api.Key, kind int) []byte {
	i := slices.IndexFunc(l, func(x api.Key) bool { return x.Kind == kind })
	if i < 0 {
		return nil
	}
	return l[i].Value
}

// complete reports whether a session can be derived from keys.
func complete(l []api.Key) bool {
	return !slices.ContainsFunc(sessionKinds(), func(kind int) bool { return len(value(l, kind)) != api.KeyBytes })
}

// sessionKinds returns the kinds of keys from which those of a session are derived.
func sessionKinds() []int { return []int{api.KeyEnc, api.KeyMac, api.KeyData} }
