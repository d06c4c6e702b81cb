package cipher_test

import (
	"bytes"
	"math/rand/v2"
	"slices"
	"testing"

	"smartcard/api"
	"smartcard/cipher"
	"smartcard/octets"
)

const whole = 1 << 32 // all sums and products are taken modulo this number

// scrambled is the definition of the function F.
func scrambled(x, k uint64) uint64 {
	t := (x + k) % whole * 0x9e3779b1 % whole
	u := t ^ t/(1<<15)
	return u * 0x85ebca77 % whole
}

// number returns the number that four bytes denote.
func number(b []byte) uint64 {
	n, e := octets.Get(b)
	if e != api.OK || len(b) != 4 {
		panic(b)
	}
	return uint64(n)
}

// crypted takes a block through the rounds in the order that is given.
func crypted(key, block []byte, rounds []int) []byte {
	l, r := number(block[:4]), number(block[4:])
	for _, i := range rounds {
		at := i % 4 * 4
		k := (number(key[at:at+4]) + uint64(i)*0x9e3779b9) % whole
		l, r = r, l^scrambled(r, k)
	}
	first, _ := octets.Put(int(r), 4)
	last, _ := octets.Put(int(l), 4)
	return octets.Join(first, last)
}

// encrypted is the definition of the encryption.
func encrypted(key, block []byte) []byte {
	return crypted(key, block, []int{0, 1, 2, 3, 4, 5, 6, 7, 8, 9, 10, 11, 12, 13, 14, 15})
}

// decrypted is the definition of the decryption.
func decrypted(key, block []byte) []byte {
	return crypted(key, block, []int{15, 14, 13, 12, 11, 10, 9, 8, 7, 6, 5, 4, 3, 2, 1, 0})
}

// raw returns the bytes that a hexadecimal text denotes.
func raw(text string) []byte {
	b, e := octets.Parse(text)
	if e != api.OK {
		panic(text)
	}
	return b
}

// filled returns random bytes.
func filled(r *rand.Rand, n int) []byte {
	b := make([]byte, n)
	for i := range b {
		b[i] = byte(r.IntN(256))
	}
	return b
}

// patterns returns strings of n bytes with at most one 1, with at most one 0, with equal bytes, and others.
func patterns(n int) [][]byte {
	all := [][]byte{make([]byte, n), bytes.Repeat([]byte{0xff}, n), bytes.Repeat([]byte{0x80, 0, 0, 0}, n/4), bytes.Repeat([]byte{0x7f, 0xff, 0xff, 0xff}, n/4)}
	for i := range 8 * n {
		one := make([]byte, n)
		one[i/8] = 1 << (i % 8)
		zero := bytes.Repeat([]byte{0xff}, n)
		zero[i/8] ^= 1 << (i % 8)
		all = append(all, one, zero)
	}
	r := rand.New(rand.NewPCG(19, uint64(n)))
	for range 20 {
		all = append(all, filled(r, n))
	}
	return all
}

// expectBoth checks a block and its encryption in both directions.
func expectBoth(t *testing.T, key, plain, secret []byte) {
	t.Helper()
	if got, e := cipher.Encrypt(key, plain); e != api.OK || !bytes.Equal(got, secret) {
		t.Fatalf("Encrypt %x %x: %x %d instead of %x", key, plain, got, e, secret)
	}
	if got, e := cipher.Decrypt(key, secret); e != api.OK || !bytes.Equal(got, plain) {
		t.Fatalf("Decrypt %x %x: %x %d instead of %x", key, secret, got, e, plain)
	}
}

// P19.1

// The definition in this test is itself checked with the example of the document.
func TestDefinition(t *testing.T) {
	if scrambled(0, 0) != 0 {
		t.Error(scrambled(0, 0))
	}
	if got, want := scrambled(1, 0), uint64(0x9e3645df*0x85ebca77%whole); got != want {
		t.Errorf("%x instead of %x", got, want)
	}
}

func TestExamples(t *testing.T) {
	for _, c := range []struct{ key, plain, secret string }{
		{"00000000000000000000000000000000", "0000000000000000", "d5da41366a7f9fa9"},
		{"00000000000000000000000000000000", "0000000000000001", "0dcc7958dc5e006f"},
		{"00000000000000000000000000000000", "0100000000000000", "c2025dc9ea0dd761"},
		{"00000000000000000000000000000001", "0000000000000000", "40d478eb7deb9e2d"},
		{"80000000000000000000000000000000", "0000000000000000", "97de68ad4064d6ef"},
		{"11111111111111111111111111111111", "0000000000000000", "251355550e784e3f"},
		{"ffffffffffffffffffffffffffffffff", "ffffffffffffffff", "5fdfd40731ed8d44"},
		{"000102030405060708090a0b0c0d0e0f", "0000000000000000", "6cc8b02f635ad0de"},
		{"000102030405060708090a0b0c0d0e0f", "0001020304050607", "89ae9886eacb6736"},
		{"00112233445566778899aabbccddeeff", "fedcba9876543210", "a4a53fd3c29bc1af"},
	} {
		expectBoth(t, raw(c.key), raw(c.plain), raw(c.secret))
	}
}

func TestAgreesWithTheDefinition(t *testing.T) {
	blocks := patterns(api.BlockBytes)
	for _, key := range patterns(api.KeyBytes) {
		for _, b := range blocks {
			if got, e := cipher.Encrypt(key, b); e != api.OK || !bytes.Equal(got, encrypted(key, b)) {
				t.Fatalf("Encrypt %x %x: %x %d", key, b, got, e)
			}
			if got, e := cipher.Decrypt(key, b); e != api.OK || !bytes.Equal(got, decrypted(key, b)) {
				t.Fatalf("Decrypt %x %x: %x %d", key, b, got, e)
			}
		}
	}
}

// wanted returns the error for a key and a block of these lengths.
func wanted(key, block int) api.Errno {
	switch {
	case key != 16:
		return api.ErrKey // comes first
	case block != 8:
		return api.ErrArg
	}
	return api.OK
}

func TestErrors(t *testing.T) {
	lengths := []int{100, 255, 256, 264, 272, 65536, 65544, 65552}
	for n := range 40 {
		lengths = append(lengths, n)
	}
	for _, k := range lengths {
		for _, b := range lengths {
			for name, f := range map[string]func(key, block []byte) ([]byte, api.Errno){"Encrypt": cipher.Encrypt, "Decrypt": cipher.Decrypt} {
				got, e := f(make([]byte, k), make([]byte, b))
				if e != wanted(k, b) || e != api.OK && len(got) != 0 || e == api.OK && len(got) != 8 {
					t.Fatal(name, k, b, got, e)
				}
			}
		}
	}
	for _, f := range []func(key, block []byte) ([]byte, api.Errno){cipher.Encrypt, cipher.Decrypt} {
		if got, e := f(nil, nil); e != api.ErrKey || len(got) != 0 {
			t.Error(got, e)
		}
		if got, e := f(nil, make([]byte, 8)); e != api.ErrKey || len(got) != 0 {
			t.Error(got, e)
		}
		if got, e := f(make([]byte, 16), nil); e != api.ErrArg || len(got) != 0 {
			t.Error(got, e)
		}
	}
}

// P19.2

func TestInverse(t *testing.T) {
	blocks := patterns(api.BlockBytes)
	for _, key := range patterns(api.KeyBytes) {
		for _, b := range blocks {
			secret, e := cipher.Encrypt(key, b)
			if e != api.OK {
				t.Fatal(e)
			}
			if got, e := cipher.Decrypt(key, secret); e != api.OK || !bytes.Equal(got, b) {
				t.Fatalf("%x %x: %x %d", key, b, got, e)
			}
			plain, e := cipher.Decrypt(key, b)
			if e != api.OK {
				t.Fatal(e)
			}
			if got, e := cipher.Encrypt(key, plain); e != api.OK || !bytes.Equal(got, b) {
				t.Fatalf("%x %x: %x %d", key, b, got, e)
			}
		}
	}
}

// The rules 'Results' and 'Determinism': arguments are neither changed nor kept, what is behind their length is left alone, and a result is new memory.

func TestResultsAreNewMemory(t *testing.T) {
	store := raw("000102030405060708090a0b0c0d0e0f0001020304050607eeeeeeee")
	before := bytes.Clone(store)
	for want, f := range map[string]func(key, block []byte) ([]byte, api.Errno){
		string(encrypted(store[:16], store[16:24])): cipher.Encrypt,
		string(decrypted(store[:16], store[16:24])): cipher.Decrypt,
	} {
		for range 3 {
			got, e := f(store[:16], store[16:24])
			if e != api.OK || string(got) != want || !bytes.Equal(store, before) {
				t.Fatalf("%x %d, %x", got, e, store)
			}
			got = append(got, 1, 2, 3)
			for i := range got {
				got[i] ^= 0xff
			}
			if !bytes.Equal(store, before) {
				t.Fatalf("the result shares memory with an argument: %x", store)
			}
		}
		if got, e := f(slices.Clip(bytes.Clone(store[:16])), slices.Clip(bytes.Clone(store[16:24]))); e != api.OK || string(got) != want {
			t.Errorf("%x %d", got, e)
		}
	}
	// The key and the block may lie in the same memory.
	if got, e := cipher.Encrypt(store[:16], store[4:12]); e != api.OK || !bytes.Equal(got, encrypted(store[:16], store[4:12])) {
		t.Errorf("%x %d", got, e)
	}
}
