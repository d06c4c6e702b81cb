package mode_test

import (
	"bytes"
	"math/rand/v2"
	"testing"

	"smartcard/api"
	"smartcard/cipher"
	"smartcard/mode"
	"smartcard/octets"
)

// raw returns the bytes that a hexadecimal text denotes.
func raw(text string) []byte {
	b, e := octets.Parse(text)
	if e != api.OK {
		panic(text)
	}
	return b
}

var (
	key16 = raw("000102030405060708090a0b0c0d0e0f")
	iv8   = raw("a0a1a2a3a4a5a6a7")
	zero8 = make([]byte, 8)
)

// counted returns n bytes, of which neighbours differ.
func counted(n int) []byte {
	b := make([]byte, n)
	for i := range b {
		b[i] = byte(i*7 + 3)
	}
	return b
}

// filled returns random bytes.
func filled(r *rand.Rand, n int) []byte {
	b := make([]byte, n)
	for i := range b {
		b[i] = byte(r.IntN(256))
	}
	return b
}

// must returns the result of a call that succeeds.
func must(b []byte, e api.Errno) []byte {
	if e != api.OK {
		panic(e)
	}
	return b
}

// mixed is the exclusive or of two strings of the same length.
func mixed(a, b []byte) []byte { return must(octets.Xor(a, b)) }

// sample is a key, an initial value, and data.
type sample struct{ key, iv, data []byte }

// samples returns keys and initial values with data of every length up to 70 bytes, and a few greater ones.
func samples() []sample {
	r := rand.New(rand.NewPCG(20, 0))
	var all []sample
	for n := range 71 {
		all = append(all, sample{key16, iv8, counted(n)}, sample{make([]byte, 16), zero8, make([]byte, n)})
		for range 3 {
			all = append(all, sample{filled(r, 16), filled(r, 8), filled(r, n)})
		}
	}
	for _, n := range []int{127, 128, 255, 256, 1000, 4096, 65535, 65536, 65544} {
		all = append(all, sample{filled(r, 16), filled(r, 8), filled(r, n)})
	}
	return all
}

// wholeBlocks returns the samples without the bytes that do not fill a block.
func wholeBlocks() []sample {
	all := samples()
	for i, s := range all {
		all[i].data = s.data[:len(s.data)/8*8]
	}
	return all
}

// encrypted is the definition of EncryptCBC: it returns the blocks y1, y2, ..
func encrypted(key, iv, data []byte) [][]byte {
	ys := [][]byte{iv} // y0
	for i := 1; i <= len(data)/8; i++ {
		x := data[8*i-8 : 8*i]
		ys = append(ys, must(cipher.Encrypt(key, mixed(x, ys[i-1]))))
	}
	return ys[1:]
}

// decrypted is the definition of DecryptCBC: it returns the blocks x1, x2, ..
func decrypted(key, iv, data []byte) [][]byte {
	ys := octets.Join(iv, data)
	var xs [][]byte
	for i := 1; i <= len(data)/8; i++ {
		xs = append(xs, mixed(must(cipher.Decrypt(key, ys[8*i:8*i+8])), ys[8*i-8:8*i]))
	}
	return xs
}

// P20.1

func TestCBCExamples(t *testing.T) {
	const secret, plain = "8e971215eb61390ba78aa3078dd92cd231d7e9c8597187fd9381e5d44fe55f76304a27863500caf4", "92caaad9ecde0e015608aa7df4f258bc2137340e027962e2918aba0a293bd95e54497483c8412689"
	for n := 0; n <= 40; n += 8 {
		if got, e := mode.EncryptCBC(key16, iv8, counted(n)); e != api.OK || octets.Hex(got) != secret[:2*n] {
			t.Errorf("%d: %x %d", n, got, e)
		}
		if got, e := mode.DecryptCBC(key16, iv8, counted(n)); e != api.OK || octets.Hex(got) != plain[:2*n] {
			t.Errorf("%d: %x %d", n, got, e)
		}
	}
}

func TestCBCOfNoBytes(t *testing.T) {
	for _, data := range [][]byte{nil, {}, counted(8)[:0]} {
		if got, e := mode.EncryptCBC(key16, iv8, data); e != api.OK || len(got) != 0 {
			t.Error(got, e)
		}
		if got, e := mode.DecryptCBC(key16, iv8, data); e != api.OK || len(got) != 0 {
			t.Error(got, e)
		}
	}
}

func TestCBCAgreesWithTheDefinition(t *testing.T) {
	for _, s := range wholeBlocks() {
		if got, e := mode.EncryptCBC(s.key, s.iv, s.data); e != api.OK || !bytes.Equal(got, octets.Join(encrypted(s.key, s.iv, s.data)...)) {
			t.Fatalf("EncryptCBC %x %x of %d bytes: %d", s.key, s.iv, len(s.data), e)
		}
		if got, e := mode.DecryptCBC(s.key, s.iv, s.data); e != api.OK || !bytes.Equal(got, octets.Join(decrypted(s.key, s.iv, s.data)...)) {
			t.Fatalf("DecryptCBC %x %x of %d bytes: %d", s.key, s.iv, len(s.data), e)
		}
	}
}

// chained are the functions with a key, an initial value and data.
func chained() map[string]func(key, iv, data []byte) ([]byte, api.Errno) {
	return map[string]func(key, iv, data []byte) ([]byte, api.Errno){"EncryptCBC": mode.EncryptCBC, "DecryptCBC": mode.DecryptCBC, "MAC": mode.MAC}
}

func TestErrorsOfKeysAndInitialValues(t *testing.T) {
	for name, f := range chained() {
		for _, n := range []int{0, 5, 8, 16} {
			for k := range 40 {
				for i := range 30 {
					want := api.ErrArg
					if k == 16 && i == 8 && (n%8 == 0 || name == "MAC") {
						want = api.OK
					}
					got, e := f(make([]byte, k), make([]byte, i), make([]byte, n))
					if e != want || e != api.OK && len(got) != 0 {
						t.Fatal(name, k, i, n, got, e)
					}
				}
			}
			if got, e := f(nil, iv8, counted(n)); e != api.ErrArg || len(got) != 0 {
				t.Error(name, got, e)
			}
			if got, e := f(key16, nil, counted(n)); e != api.ErrArg || len(got) != 0 {
				t.Error(name, got, e)
			}
		}
	}
}

func TestErrorsOfLengths(t *testing.T) {
	for n := range 300 {
		want := api.OK
		if n%8 != 0 {
			want = api.ErrArg
		}
		for _, f := range []func(key, iv, data []byte) ([]byte, api.Errno){mode.EncryptCBC, mode.DecryptCBC} {
			got, e := f(key16, iv8, counted(n))
			if e != want || e == api.OK && len(got) != n || e != api.OK && len(got) != 0 {
				t.Fatal(n, got, e)
			}
		}
	}
}

// P20.2

func TestMACExamples(t *testing.T) {
	for n, want := range map[int][2]string{
		0:  {"738328f31b675ff0", "2b1bbd743e253a1b"},
		1:  {"74e736bdb417fab0", "d5f3d36aa28cc71c"},
		7:  {"d16572290eedf279", "a3a47f07c1cdf044"},
		8:  {"624734a687ae32b9", "2ea27e87f3eb4835"},
		9:  {"619aabb1079ef542", "21ea5f6a7609fd2c"},
		15: {"004d40c64caa4ab9", "946d97179abd9fed"},
		16: {"94d60fb3d6fca387", "e0a84ce2504437c2"},
		20: {"5895cd99e5d4f532", "50c4874e5eab928e"},
	} {
		for i, iv := range [][]byte{iv8, zero8} {
			if got, e := mode.MAC(key16, iv, counted(n)); e != api.OK || octets.Hex(got) != want[i] {
				t.Errorf("%d, %x: %x %d", n, iv, got, e)
			}
		}
	}
}

func TestMACAgreesWithTheDefinition(t *testing.T) {
	for _, s := range samples() {
		blocks := encrypted(s.key, s.iv, must(octets.Pad(s.data, 8)))
		if got, e := mode.MAC(s.key, s.iv, s.data); e != api.OK || !bytes.Equal(got, blocks[len(blocks)-1]) {
			t.Fatalf("%x %x of %d bytes: %x %d", s.key, s.iv, len(s.data), got, e)
		}
	}
}

// The example of the document.
func TestMACOfAShortString(t *testing.T) {
	for n := range 8 {
		want := must(cipher.Encrypt(key16, must(octets.Pad(counted(n), 8))))
		if got, e := mode.MAC(key16, zero8, counted(n)); e != api.OK || !bytes.Equal(got, want) {
			t.Errorf("%d: %x %d", n, got, e)
		}
	}
}

// P20.3

func TestDeriveExamples(t *testing.T) {
	for n, want := range map[int]string{
		0:  "9a1d63fedc206d002b3b7bffad1ce639",
		1:  "ad2cf130a0c4bc27fe6b54ed92b12b41",
		7:  "e460d5680a5a454bd811b02136a4f02f",
		8:  "566694e71e75e1c36fe76680bc83801b",
		9:  "5e3eabe89007f879abe14bcd2573636c",
		15: "80335f056fed0b8573644284e7596257",
		16: "36d58acc8793f92b6b6545ac6842e7b7",
		20: "4e32b0ca411cce35e1005082b0633cb0",
	} {
		if got, e := mode.Derive(key16, counted(n)); e != api.OK || octets.Hex(got) != want {
			t.Errorf("%d: %x %d", n, got, e)
		}
	}
	if got, e := mode.Derive(bytes.Repeat([]byte{0x11}, 16), []byte{1}); e != api.OK || octets.Hex(got) != "f6094163f85b15f8c4bf0fb5e7e073d9" {
		t.Errorf("%x %d", got, e)
	}
}

func TestDeriveAgreesWithTheDefinition(t *testing.T) {
	for _, s := range samples() {
		first := must(mode.MAC(s.key, zero8, octets.Join([]byte{1}, s.data)))
		last := must(mode.MAC(s.key, zero8, octets.Join([]byte{2}, s.data)))
		if got, e := mode.Derive(s.key, s.data); e != api.OK || !bytes.Equal(got, octets.Join(first, last)) {
			t.Fatalf("%x with a label of %d bytes: %x %d", s.key, len(s.data), got, e)
		}
	}
}

func TestDeriveErrors(t *testing.T) {
	for n := range 40 {
		for _, label := range [][]byte{nil, counted(8), counted(16), counted(20)} {
			want := api.ErrArg
			if n == 16 {
				want = api.OK
			}
			if got, e := mode.Derive(make([]byte, n), label); e != want || e != api.OK && len(got) != 0 {
				t.Error(n, label, got, e)
			}
		}
	}
	if got, e := mode.Derive(nil, nil); e != api.ErrArg || len(got) != 0 {
		t.Error(got, e)
	}
}

// P20.4

func TestHashExamples(t *testing.T) {
	for n, want := range map[int]string{
		0:  "910a994fad837fa06c6a7f666685a6ce",
		1:  "c2cd64b14fbf66e8c3c8a3b00e9d9f22",
		7:  "e0fc03519ef712a90287ab05d1cfc892",
		8:  "08f17555fa185401257eb83fbfa38e14",
		9:  "22388895a0681678aee39ca9e0ae442b",
		15: "07f305f003b94bae47c101ab1f44d239",
		16: "d4d87091a4d571423376434b10042233",
		20: "64736013dce14eb92e49081f4b810e91",
	} {
		if got := mode.Hash(counted(n)); octets.Hex(got) != want {
			t.Errorf("%d: %x", n, got)
		}
	}
	if got := mode.Hash(nil); octets.Hex(got) != "910a994fad837fa06c6a7f666685a6ce" {
		t.Errorf("%x", got)
	}
	if got := mode.Hash(bytes.Repeat([]byte{0xa5}, 1000)); octets.Hex(got) != "3a0b5fb7fdd1001bd143aac312851986" {
		t.Errorf("%x", got)
	}
	if got := mode.Hash(make([]byte, 256)); octets.Hex(got) != "5426653284837dac56eeff32efbcabb8" {
		t.Errorf("%x", got)
	}
}

// hashed is the definition of the hash value.
func hashed(data []byte) []byte {
	input := octets.Join(must(octets.Pad(data, 8)), must(octets.Put(len(data), 8)))
	h := make([]byte, 16)
	for at := 0; at < len(input); at += 8 {
		x := input[at : at+8]
		inverted := mixed(x, bytes.Repeat([]byte{0xff}, 8))
		first := mixed(must(cipher.Encrypt(h, x)), h[:8])
		last := mixed(must(cipher.Encrypt(h, inverted)), h[8:])
		h = octets.Join(first, last)
	}
	return h
}

func TestHashAgreesWithTheDefinition(t *testing.T) {
	for _, s := range samples() {
		if got := mode.Hash(s.data); !bytes.Equal(got, hashed(s.data)) {
			t.Fatalf("%d bytes: %x", len(s.data), got)
		}
	}
}

// Strings that differ only in bytes that padding adds, or in the number of equal blocks, have different hash values.
func TestHashTellsLengthsApart(t *testing.T) {
	seen := map[string]int{}
	for n := range 300 {
		for _, b := range [][]byte{make([]byte, n), append(make([]byte, n), 0x80)} {
			h := string(mode.Hash(b))
			if at, ok := seen[h]; ok {
				t.Fatal(n, at)
			}
			seen[h] = n
		}
	}
}

// P20.5

func TestCheckExamples(t *testing.T) {
	for key, want := range map[string]string{
		"00000000000000000000000000000000": "d5da41",
		"000102030405060708090a0b0c0d0e0f": "6cc8b0",
		"11111111111111111111111111111111": "251355",
		"ffffffffffffffffffffffffffffffff": "2073bf",
	} {
		if got, e := mode.Check(raw(key)); e != api.OK || octets.Hex(got) != want {
			t.Errorf("%s: %x %d", key, got, e)
		}
	}
}

func TestCheckAgreesWithTheDefinition(t *testing.T) {
	for _, s := range samples() {
		if got, e := mode.Check(s.key); e != api.OK || !bytes.Equal(got, must(cipher.Encrypt(s.key, zero8))[:3]) {
			t.Fatalf("%x: %x %d", s.key, got, e)
		}
	}
}

func TestCheckErrors(t *testing.T) {
	for n := range 40 {
		want := api.ErrArg
		if n == 16 {
			want = api.OK
		}
		if got, e := mode.Check(make([]byte, n)); e != want || e != api.OK && len(got) != 0 {
			t.Error(n, got, e)
		}
	}
	if got, e := mode.Check(nil); e != api.ErrArg || len(got) != 0 {
		t.Error(got, e)
	}
}

// P20.6

func TestInverse(t *testing.T) {
	for _, s := range wholeBlocks() {
		secret := must(mode.EncryptCBC(s.key, s.iv, s.data))
		if got, e := mode.DecryptCBC(s.key, s.iv, secret); e != api.OK || !bytes.Equal(got, s.data) {
			t.Fatalf("%x %x of %d bytes: %d", s.key, s.iv, len(s.data), e)
		}
		plain := must(mode.DecryptCBC(s.key, s.iv, s.data))
		if got, e := mode.EncryptCBC(s.key, s.iv, plain); e != api.OK || !bytes.Equal(got, s.data) {
			t.Fatalf("%x %x of %d bytes: %d", s.key, s.iv, len(s.data), e)
		}
	}
}

// P20.7

func TestEncryptionOfTwoStrings(t *testing.T) {
	for _, s := range wholeBlocks() {
		if len(s.data) > 1000 {
			continue
		}
		whole := must(mode.EncryptCBC(s.key, s.iv, s.data))
		for cut := 0; cut <= len(s.data); cut += 8 {
			first := must(mode.EncryptCBC(s.key, s.iv, s.data[:cut]))
			link := s.iv
			if cut > 0 {
				link = first[cut-8:]
			}
			last := must(mode.EncryptCBC(s.key, link, s.data[cut:]))
			if !bytes.Equal(octets.Join(first, last), whole) {
				t.Fatalf("%x %x of %d bytes, divided after %d", s.key, s.iv, len(s.data), cut)
			}
		}
	}
}

// P20.8

func TestLengths(t *testing.T) {
	for _, s := range samples() {
		mac, derived := must(mode.MAC(s.key, s.iv, s.data)), must(mode.Derive(s.key, s.data))
		hash, value := mode.Hash(s.data), must(mode.Check(s.key))
		if len(mac) != 8 || len(derived) != 16 || len(hash) != 16 || len(value) != 3 {
			t.Fatal(len(s.data), mac, derived, hash, value)
		}
	}
}

// The rules 'Results' and 'Determinism': arguments are neither changed nor kept, what is behind their length is left alone, and a result is new memory.

// calls are all functions, as functions of three strings.
func calls() map[string]func(key, iv, data []byte) []byte {
	return map[string]func(key, iv, data []byte) []byte{
		"EncryptCBC": func(key, iv, data []byte) []byte { return must(mode.EncryptCBC(key, iv, data)) },
		"DecryptCBC": func(key, iv, data []byte) []byte { return must(mode.DecryptCBC(key, iv, data)) },
		"MAC":        func(key, iv, data []byte) []byte { return must(mode.MAC(key, iv, data)) },
		"Derive":     func(key, iv, data []byte) []byte { return must(mode.Derive(key, data)) },
		"Hash":       func(key, iv, data []byte) []byte { return mode.Hash(data) },
		"Check":      func(key, iv, data []byte) []byte { return must(mode.Check(key)) },
	}
}

func TestResultsAreNewMemory(t *testing.T) {
	for name, f := range calls() {
		for _, n := range []int{0, 8, 16, 24} {
			want := f(key16, iv8, counted(n))
			store := octets.Join(key16, iv8, counted(n), bytes.Repeat([]byte{0xee}, 16))
			before := bytes.Clone(store)
			for range 3 {
				got := f(store[:16], store[16:24], store[24:24+n])
				if !bytes.Equal(got, want) || !bytes.Equal(store, before) {
					t.Fatalf("%s of %d bytes: %x, %x", name, n, got, store)
				}
				got = append(got, 1, 2, 3)
				for i := range got[:cap(got)] {
					got[:cap(got)][i] ^= 0xff
				}
				if !bytes.Equal(store, before) {
					t.Fatalf("%s of %d bytes: the result shares memory with an argument: %x", name, n, store)
				}
			}
		}
	}
}

// The key, the initial value and the data may lie in the same memory.
func TestArgumentsInTheSameMemory(t *testing.T) {
	for name, f := range calls() {
		store := counted(40)
		key, iv, data := store[:16], store[4:12], store[8:32]
		want := f(bytes.Clone(key), bytes.Clone(iv), bytes.Clone(data))
		if got := f(key, iv, data); !bytes.Equal(got, want) || !bytes.Equal(store, counted(40)) {
			t.Errorf("%s: %x instead of %x", name, got, want)
		}
	}
}
