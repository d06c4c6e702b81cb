package records_test

import (
	"bytes"
	"math"
	"slices"
	"testing"

	"smartcard/api"
	"smartcard/cell"
	"smartcard/records"
	"smartcard/tree"
	"smartcard/vault"
)

const forever = 1 << 40 // an endurance that no test reaches

// card is a memory, and what lies on it.
type card struct {
	mem *cell.Memory
	v   *vault.Vault
	t   *tree.Tree
	f   *records.Files
}

// newCard returns a new card whose memory has a number of words.
func newCard(t *testing.T, words int) *card {
	t.Helper()
	m, _, e := vault.New(api.MemoryConfig{Words: words, Endurance: forever})
	expect(t, "vault.New", e, api.OK)
	return mounted(t, m)
}

// mounted returns the card with a memory that has power.
func mounted(t *testing.T, m *cell.Memory) *card {
	t.Helper()
	v, e := vault.Mount(m)
	expect(t, "Mount", e, api.OK)
	x, e := tree.Open(v)
	expect(t, "tree.Open", e, api.OK)
	f, e := records.Open(v, x)
	if e != api.OK || f == nil {
		t.Fatal("Open returns", f, e)
	}
	return &card{m, v, x, f}
}

func expect(t *testing.T, what string, got, want api.Errno) {
	t.Helper()
	if got != want {
		t.Fatal(what, "returns", got, "and not", want)
	}
}

func expectBytes(t *testing.T, what string, got []byte, e api.Errno, want ...byte) {
	t.Helper()
	if e != api.OK || !bytes.Equal(got, want) {
		t.Fatalf("%s returns %x, %d and not %x", what, got, e, want)
	}
}

func expectNumbers(t *testing.T, what string, got []int, e api.Errno, want ...int) {
	t.Helper()
	if e != api.OK || !slices.Equal(got, want) {
		t.Fatal(what, "returns", got, e, "and not", want)
	}
}

// create creates a file in the master file, and returns its handle.
func (c *card) create(t *testing.T, f api.File) int {
	t.Helper()
	h, e := c.t.Create(1, f)
	expect(t, "Create", e, api.OK)
	return h
}

func directory(id int) api.File {
	return api.File{ID: id, Kind: api.FileDF, State: api.FileActive}
}

func binary(id, size int) api.File {
	return api.File{ID: id, Kind: api.FileBinary, Size: size, State: api.FileActive}
}

// listed returns the header of a file with records.
func listed(id, kind, length, number int) api.File {
	return api.File{ID: id, Kind: kind, Length: length, Records: number, State: api.FileActive}
}

// listKinds are the kinds with records.
var listKinds = []int{api.FileLinear, api.FileVariable, api.FileCyclic}

// fenced returns a slice with the bytes b and others behind them, and a function that reports whether all are as they were.
func fenced(b []byte) ([]byte, func() bool) {
	whole := append(bytes.Clone(b), 0xee, 0xee, 0xee, 0xee)
	before := bytes.Clone(whole)
	return whole[:len(b)], func() bool { return bytes.Equal(whole, before) }
}

// Examples

func TestExamples(t *testing.T) {
	c := newCard(t, 16384)
	h := c.create(t, listed(1, api.FileCyclic, 1, 2))
	for _, x := range []byte{1, 2, 3} {
		expect(t, "Append", c.f.Append(h, []byte{x}), api.OK)
	}
	if n, e := c.f.Count(h); n != 2 || e != api.OK {
		t.Error("Count returns", n, e)
	}
	b, e := c.f.Read(h, 1)
	expectBytes(t, "Read", b, e, 3)
	b, e = c.f.Read(h, 2)
	expectBytes(t, "Read", b, e, 2)
	l, e := c.f.Search(h, 1, []byte{2})
	expectNumbers(t, "Search", l, e, 2)
	expect(t, "Update", c.f.Update(h, 1, []byte{9}), api.OK)
	b, e = c.f.Read(h, 1)
	expectBytes(t, "Read", b, e, 9)

	h = c.create(t, binary(2, 4))
	b, e = c.f.ReadBinary(h, 3, 5)
	expectBytes(t, "ReadBinary", b, e, 0)
	b, e = c.f.ReadBinary(h, 4, 5)
	expectBytes(t, "ReadBinary", b, e)
	b, e = c.f.ReadBinary(h, 5, 5)
	if len(b) > 0 || e != api.ErrRange {
		t.Error("ReadBinary returns", b, e)
	}
}

// P17.1

func TestOpen(t *testing.T) {
	c := newCard(t, 16384)
	h := c.create(t, binary(1, 3))
	expect(t, "UpdateBinary", c.f.UpdateBinary(h, 0, []byte{1, 2, 3}), api.OK)
	ids, writes := c.v.IDs(), c.mem.Writes()
	f, e := records.Open(c.v, c.t)
	expect(t, "Open", e, api.OK)
	b, e := f.ReadBinary(h, 0, 9)
	expectBytes(t, "ReadBinary", b, e, 1, 2, 3)
	if !slices.Equal(c.v.IDs(), ids) || c.mem.Writes() != writes {
		t.Error("Open has changed something")
	}
	expectNoFiles := func(what string, v *vault.Vault, x *tree.Tree, want api.Errno) {
		t.Helper()
		if f, e := records.Open(v, x); f != nil || e != want {
			t.Error("Open with", what, "returns", f, e)
		}
	}
	expectNoFiles("nil", nil, nil, api.ErrNil)
	expectNoFiles("no vault", nil, c.t, api.ErrNil)
	expectNoFiles("no tree", c.v, nil, api.ErrNil)
	expectNoFiles("a vault that is none", &vault.Vault{}, c.t, api.ErrPower)
	c.mem.Cut(0)
	expect(t, "Put", c.v.Put(1, nil), api.ErrPower)
	expectNoFiles("no power", c.v, c.t, api.ErrPower)
	expectNoFiles("neither power nor tree", c.v, nil, api.ErrNil)
	c.mem.Restore()
	expectNoFiles("a vault that had no power", c.v, c.t, api.ErrPower)
}

// allCalls makes all calls for a file, with arguments that are ErrArg where there is ErrArg, and with others. It passes on each error, whether the call requires a transparent file, and whether its arguments are ErrArg.
func allCalls(t *testing.T, f *records.Files, h int, see func(what string, e api.Errno, binary, wrong bool)) {
	t.Helper()
	for _, x := range [][2]int{{-1, 0}, {0, -1}, {-1, -1}, {math.MinInt, math.MaxInt}, {math.MaxInt, math.MinInt}, {0, 0}, {1, 1}, {math.MaxInt, math.MaxInt}} {
		off, n := x[0], x[1]
		b, e := f.ReadBinary(h, off, n)
		see("ReadBinary", e, true, off < 0 || n < 0)
		r, e2 := f.Read(h, n)
		see("Read", e2, false, false)
		l, e3 := f.Search(h, n, nil)
		see("Search", e3, false, false)
		count, e4 := f.Count(h)
		see("Count", e4, false, false)
		if e != api.OK && len(b) > 0 || e2 != api.OK && len(r) > 0 || e3 != api.OK && len(l) > 0 || e4 != api.OK && count > 0 {
			t.Error("there is a result together with an error", b, r, l, count)
		}
		see("Erase", f.Erase(h, off, n), true, off < 0 || n < 0)
		see("UpdateBinary", f.UpdateBinary(h, off, []byte{1}), true, off < 0)
		see("Update", f.Update(h, n, make([]byte, 300)), false, false)
		see("Append", f.Append(h, make([]byte, 300)), false, false)
	}
}

// expectAll expects that all calls for a file return an error, if they do not return ErrArg before.
func expectAll(t *testing.T, f *records.Files, h int, argument, want api.Errno) {
	t.Helper()
	allCalls(t, f, h, func(what string, e api.Errno, _, wrong bool) {
		t.Helper()
		if wrong {
			expect(t, what, e, argument)
		} else {
			expect(t, what, e, want)
		}
	})
}

// TestOrderOfErrors is about the errors that all methods have, and about their order.
func TestOrderOfErrors(t *testing.T) {
	expectAll(t, nil, 1, api.ErrNil, api.ErrNil)
	expectAll(t, &records.Files{}, 1, api.ErrNil, api.ErrNil)
	c := newCard(t, 16384)
	for _, h := range []int{0, 2, -1, 128, 129, 256, -256, -511, -512, math.MaxInt, math.MinInt, math.MaxInt - 511} {
		expectAll(t, c.f, h, api.ErrArg, api.ErrNone)
	}
	expectAll(t, c.f, 1, api.ErrArg, api.ErrType)
	dir := c.create(t, directory(1))
	expectAll(t, c.f, dir, api.ErrArg, api.ErrType)
	h := c.create(t, binary(2, 4))
	allCalls(t, c.f, h, func(what string, e api.Errno, binary, wrong bool) {
		if !binary {
			expect(t, what, e, api.ErrType)
		}
	})
	for i, kind := range listKinds {
		h := c.create(t, listed(3+i, kind, 1, 1))
		allCalls(t, c.f, h, func(what string, e api.Errno, binary, wrong bool) {
			if wrong {
				expect(t, what, e, api.ErrArg)
			} else if binary {
				expect(t, what, e, api.ErrType)
			}
		})
	}
	c.mem.Cut(0)
	expect(t, "Put", c.v.Put(1, nil), api.ErrPower)
	for h := range 9 {
		expectAll(t, c.f, h, api.ErrArg, api.ErrPower)
	}
	c.mem.Restore()
	expectAll(t, c.f, h, api.ErrArg, api.ErrPower)
}

// TestRemovedFiles is about files that are not there any more, and new ones with their handles.
func TestRemovedFiles(t *testing.T) {
	c := newCard(t, 16384)
	h := c.create(t, binary(1, 2))
	expect(t, "UpdateBinary", c.f.UpdateBinary(h, 0, []byte{1, 2}), api.OK)
	expect(t, "Remove", c.t.Remove(h), api.OK)
	expectAll(t, c.f, h, api.ErrArg, api.ErrNone)
	if c.create(t, listed(1, api.FileVariable, 2, 2)) != h {
		t.Fatal("the handle is another one")
	}
	expect(t, "Append", c.f.Append(h, []byte{3}), api.OK)
	expect(t, "Remove", c.t.Remove(h), api.OK)
	c.create(t, binary(1, 3))
	b, e := c.f.ReadBinary(h, 0, 9)
	expectBytes(t, "ReadBinary", b, e, 0, 0, 0)
}

// TestStatesDoNotMatter is about files that are not active, and that have no rules.
func TestStatesDoNotMatter(t *testing.T) {
	c := newCard(t, 16384)
	h, k := c.create(t, binary(1, 2)), c.create(t, listed(2, api.FileLinear, 1, 2))
	for i, op := range []int{api.OpDeactivate, api.OpTerminate} {
		for _, x := range []int{h, k} {
			expect(t, "SetState", c.t.SetState(x, op), api.OK)
		}
		expect(t, "UpdateBinary", c.f.UpdateBinary(h, i, []byte{7}), api.OK)
		expect(t, "Append", c.f.Append(k, []byte{byte(i)}), api.OK)
	}
	b, e := c.f.ReadBinary(h, 0, 2)
	expectBytes(t, "ReadBinary", b, e, 7, 7)
	b, e = c.f.Read(k, 2)
	expectBytes(t, "Read", b, e, 1)
}

// P17.2

func TestTransparentFile(t *testing.T) {
	c := newCard(t, 16384)
	h := c.create(t, binary(1, 6))
	expectContent := func(want ...byte) {
		t.Helper()
		for off := range 7 {
			for n := range 9 {
				b, e := c.f.ReadBinary(h, off, n)
				expectBytes(t, "ReadBinary", b, e, want[off:min(6, off+n)]...)
			}
			b, e := c.f.ReadBinary(h, off, math.MaxInt)
			expectBytes(t, "ReadBinary", b, e, want[off:]...)
		}
	}
	expectContent(0, 0, 0, 0, 0, 0)
	for _, x := range []struct {
		off  int
		b    []byte
		want []byte
	}{
		{0, []byte{1, 2, 3, 4, 5, 6}, []byte{1, 2, 3, 4, 5, 6}},
		{0, []byte{9}, []byte{9, 2, 3, 4, 5, 6}},
		{4, []byte{7, 8}, []byte{9, 2, 3, 4, 7, 8}},
		{6, nil, []byte{9, 2, 3, 4, 7, 8}},
		{2, []byte{}, []byte{9, 2, 3, 4, 7, 8}},
		{5, []byte{0}, []byte{9, 2, 3, 4, 7, 0}},
	} {
		expect(t, "UpdateBinary", c.f.UpdateBinary(h, x.off, x.b), api.OK)
		expectContent(x.want...)
	}
	for _, x := range []struct {
		off, n int
		want   []byte
	}{
		{1, 2, []byte{9, 0, 0, 4, 7, 0}},
		{4, 2, []byte{9, 0, 0, 4, 0, 0}},
		{6, 0, []byte{9, 0, 0, 4, 0, 0}},
		{3, 0, []byte{9, 0, 0, 4, 0, 0}},
		{0, 6, []byte{0, 0, 0, 0, 0, 0}},
	} {
		expect(t, "Erase", c.f.Erase(h, x.off, x.n), api.OK)
		expectContent(x.want...)
	}
}

func TestRangesOfTransparentFiles(t *testing.T) {
	c := newCard(t, 16384)
	h := c.create(t, binary(1, 3))
	expect(t, "UpdateBinary", c.f.UpdateBinary(h, 0, []byte{1, 2, 3}), api.OK)
	for _, off := range []int{4, 5, 1024, math.MaxInt} {
		for _, n := range []int{0, 1, math.MaxInt} {
			if b, e := c.f.ReadBinary(h, off, n); len(b) > 0 || e != api.ErrRange {
				t.Error("ReadBinary returns", b, e)
			}
			expect(t, "Erase", c.f.Erase(h, off, n), api.ErrRange)
		}
		expect(t, "UpdateBinary", c.f.UpdateBinary(h, off, nil), api.ErrRange)
		expect(t, "UpdateBinary", c.f.UpdateBinary(h, off, []byte{9}), api.ErrRange)
	}
	for off := range 4 {
		for n := 4 - off; n < 8; n++ {
			expect(t, "UpdateBinary", c.f.UpdateBinary(h, off, make([]byte, n)), api.ErrRange)
			expect(t, "Erase", c.f.Erase(h, off, n), api.ErrRange)
		}
		expect(t, "Erase", c.f.Erase(h, off, math.MaxInt), api.ErrRange)
	}
	b, e := c.f.ReadBinary(h, 0, 9)
	expectBytes(t, "ReadBinary", b, e, 1, 2, 3)
}

// P17.3 to P17.5

// TestRecords is about the order of records, and what the kinds have in common.
func TestRecords(t *testing.T) {
	c := newCard(t, 16384)
	for i, kind := range listKinds {
		h := c.create(t, listed(1+i, kind, 2, 3))
		if n, e := c.f.Count(h); n != 0 || e != api.OK {
			t.Error("Count returns", n, e)
		}
		want := [][]byte{}
		for n := 1; n <= 3; n++ {
			b := []byte{byte(n), 0x10}
			expect(t, "Append", c.f.Append(h, b), api.OK)
			if kind == api.FileCyclic {
				want = slices.Insert(want, 0, b)
			} else {
				want = append(want, b)
			}
			expectRecords(t, c.f, h, want)
		}
		for n := range want {
			want[n] = []byte{byte(n), 0x77}
			expect(t, "Update", c.f.Update(h, n+1, want[n]), api.OK)
			expectRecords(t, c.f, h, want)
		}
		if kind == api.FileCyclic {
			expect(t, "Append", c.f.Append(h, []byte{8, 8}), api.OK)
			want = [][]byte{{8, 8}, want[0], want[1]}
		} else {
			expect(t, "Append", c.f.Append(h, []byte{8, 8}), api.ErrFull)
		}
		expectRecords(t, c.f, h, want)
	}
}

// expectRecords compares all records of a file.
func expectRecords(t *testing.T, f *records.Files, h int, want [][]byte) {
	t.Helper()
	if n, e := f.Count(h); n != len(want) || e != api.OK {
		t.Fatal("Count returns", n, e, "and not", len(want))
	}
	for i, r := range want {
		b, e := f.Read(h, i+1)
		expectBytes(t, "Read", b, e, r...)
	}
	for _, n := range []int{0, -1, len(want) + 1, len(want) + 2, math.MaxInt, math.MinInt} {
		if b, e := f.Read(h, n); len(b) > 0 || e != api.ErrRange {
			t.Fatal("Read of", n, "returns", b, e)
		}
		if l, e := f.Search(h, n, nil); len(l) > 0 || e != api.ErrRange {
			t.Fatal("Search from", n, "returns", l, e)
		}
		for _, b := range [][]byte{nil, {1, 2}, make([]byte, 300)} {
			expect(t, "Update", f.Update(h, n, b), api.ErrRange)
		}
	}
}

// TestLengthsOfRecords is about ErrLong and ErrShort, which come after ErrRange and before ErrFull.
func TestLengthsOfRecords(t *testing.T) {
	c := newCard(t, 16384)
	for i, kind := range listKinds {
		h := c.create(t, listed(1+i, kind, 3, 2))
		want := [][]byte{}
		for round := range 3 {
			for n := range 6 {
				e := api.OK
				switch {
				case n > 3:
					e = api.ErrLong
				case n < 3 && kind != api.FileVariable:
					e = api.ErrShort
				}
				if round > 0 {
					b := bytes.Repeat([]byte{byte(n)}, n)
					expect(t, "Update", c.f.Update(h, round, b), e)
					if e == api.OK {
						want[round-1] = b
					}
				}
				if e != api.OK {
					expect(t, "Append", c.f.Append(h, make([]byte, n)), e)
				}
				expectRecords(t, c.f, h, want)
			}
			b := []byte{5, 5, byte(round)}
			switch {
			case round < 2 && kind == api.FileCyclic:
				expect(t, "Append", c.f.Append(h, b), api.OK)
				want = slices.Insert(want, 0, b)
			case round < 2:
				expect(t, "Append", c.f.Append(h, b), api.OK)
				want = append(want, b)
			case kind != api.FileCyclic:
				expect(t, "Append", c.f.Append(h, b), api.ErrFull)
			}
		}
		expectRecords(t, c.f, h, want)
	}
}

// TestVariableRecords is about records of all lengths.
func TestVariableRecords(t *testing.T) {
	c := newCard(t, 16384)
	h := c.create(t, listed(1, api.FileVariable, 254, 4))
	want := [][]byte{nil, make([]byte, 254), {1}, {}}
	for _, b := range want {
		expect(t, "Append", c.f.Append(h, b), api.OK)
	}
	expectRecords(t, c.f, h, want)
	expect(t, "Append", c.f.Append(h, nil), api.ErrFull)
	for n := range 255 {
		want[n%4] = bytes.Repeat([]byte{byte(n)}, n)
		expect(t, "Update", c.f.Update(h, n%4+1, want[n%4]), api.OK)
		expectRecords(t, c.f, h, want)
	}
	expect(t, "Update", c.f.Update(h, 1, make([]byte, 255)), api.ErrLong)
	expect(t, "Update", c.f.Update(h, 1, make([]byte, 256)), api.ErrLong)
}

func TestSearch(t *testing.T) {
	c := newCard(t, 16384)
	h := c.create(t, listed(1, api.FileVariable, 5, 6))
	for _, s := range []string{"abcab", "", "ab", "b", "bca", "ab"} {
		expect(t, "Append", c.f.Append(h, []byte(s)), api.OK)
	}
	for _, x := range []struct {
		from    int
		pattern string
		want    []int
	}{
		{1, "", []int{1, 2, 3, 4, 5, 6}},
		{6, "", []int{6}},
		{1, "ab", []int{1, 3, 6}},
		{2, "ab", []int{3, 6}},
		{3, "ab", []int{3, 6}},
		{4, "ab", []int{6}},
		{6, "ab", []int{6}},
		{1, "b", []int{1, 3, 4, 5, 6}},
		{1, "bca", []int{1, 5}},
		{2, "abcab", nil},
		{1, "abcab", []int{1}},
		{1, "bab", nil}, // not even where one record ends and another one begins
		{3, "abb", nil},
		{1, "abcaba", nil},
		{5, "x", nil},
	} {
		pattern, same := fenced([]byte(x.pattern))
		l, e := c.f.Search(h, x.from, pattern)
		expectNumbers(t, "Search", l, e, x.want...)
		if !same() {
			t.Error("the pattern has changed")
		}
	}
	for _, from := range []int{0, -1, 7, math.MaxInt, math.MinInt} {
		if l, e := c.f.Search(h, from, []byte("ab")); len(l) > 0 || e != api.ErrRange {
			t.Error("Search from", from, "returns", l, e)
		}
	}
	h = c.create(t, listed(2, api.FileCyclic, 2, 3))
	for _, s := range []string{"aa", "ab", "ba", "bb"} {
		expect(t, "Append", c.f.Append(h, []byte(s)), api.OK)
	}
	l, e := c.f.Search(h, 1, []byte("a"))
	expectNumbers(t, "Search", l, e, 2, 3)
	l, e = c.f.Search(h, 3, []byte("a"))
	expectNumbers(t, "Search", l, e, 3)
}

// Arguments, results, and items

// TestResultsAreNew changes arguments and results.
func TestResultsAreNew(t *testing.T) {
	c := newCard(t, 16384)
	h := c.create(t, binary(1, 3))
	arg, same := fenced([]byte{1, 2, 3})
	expect(t, "UpdateBinary", c.f.UpdateBinary(h, 0, arg), api.OK)
	if !same() {
		t.Error("the argument has changed")
	}
	clear(arg)
	b, e := c.f.ReadBinary(h, 1, 1)
	expectBytes(t, "ReadBinary", b, e, 2)
	clear(b)
	_ = append(b, 9)
	b, e = c.f.ReadBinary(h, 0, 3)
	expectBytes(t, "ReadBinary", b, e, 1, 2, 3)
	for i, kind := range listKinds {
		h := c.create(t, listed(2+i, kind, 2, 3))
		arg, same := fenced([]byte{1, 2})
		expect(t, "Append", c.f.Append(h, arg), api.OK)
		expect(t, "Append", c.f.Append(h, arg), api.OK)
		expect(t, "Update", c.f.Update(h, 2, arg), api.OK)
		if !same() {
			t.Error("the argument has changed")
		}
		clear(arg)
		b, e := c.f.Read(h, 1)
		expectBytes(t, "Read", b, e, 1, 2)
		clear(b)
		_ = append(b, 9, 9)
		expectRecords(t, c.f, h, [][]byte{{1, 2}, {1, 2}})
	}
}

// TestLargestContents fills the largest files, and looks at the sizes of their items.
func TestLargestContents(t *testing.T) {
	c := newCard(t, 65536)
	expectItem := func(h, bytes, records int) {
		t.Helper()
		b, ok := c.v.Get(api.ItemContents + h)
		if !ok || len(b) > bytes+16+4*records {
			t.Error("the item of", h, "has", len(b), "bytes")
		}
	}
	h := c.create(t, binary(1, 1024))
	want := bytes.Repeat([]byte{0xa5}, 1024)
	expect(t, "UpdateBinary", c.f.UpdateBinary(h, 0, want), api.OK)
	b, e := c.f.ReadBinary(h, 0, 1024)
	expectBytes(t, "ReadBinary", b, e, want...)
	expectItem(h, 1024, 0)
	for i, kind := range listKinds {
		for j, x := range [][2]int{{254, 4}, {4, 254}, {1, 254}, {1, 1}} {
			h := c.create(t, listed(8*i+j+2, kind, x[0], x[1]))
			var want [][]byte
			for n := range x[1] {
				b := bytes.Repeat([]byte{byte(n)}, x[0])
				expect(t, "Append", c.f.Append(h, b), api.OK)
				want = append(want, b)
				expectItem(h, x[0]*(n+1), n+1)
			}
			if kind == api.FileCyclic {
				slices.Reverse(want)
			}
			expectRecords(t, c.f, h, want)
		}
	}
	h = c.create(t, listed(0x100, api.FileVariable, 4, 254))
	for n := range 254 {
		expect(t, "Append", c.f.Append(h, nil), api.OK)
		expectItem(h, 0, n+1)
	}
	expectRecords(t, c.f, h, make([][]byte, 254))
}

// TestItems is about which items there are: one for each file whose content has changed.
func TestItems(t *testing.T) {
	c := newCard(t, 16384)
	h, k := c.create(t, binary(1, 4)), c.create(t, listed(2, api.FileCyclic, 1, 2))
	c.f.ReadBinary(h, 0, 4)
	c.f.Count(k)
	expectNumbers(t, "IDs", c.v.IDs(), api.OK, 257, 258, 259)
	expect(t, "Append", c.f.Append(k, []byte{1}), api.OK)
	expectNumbers(t, "IDs", c.v.IDs(), api.OK, 257, 258, 259, 515)
	expect(t, "Erase", c.f.Erase(h, 0, 4), api.OK)
	expectNumbers(t, "IDs", c.v.IDs(), api.OK, 257, 258, 259, 514, 515)
	writes := c.mem.Writes()
	c.f.ReadBinary(h, 0, 4)
	c.f.Count(k)
	c.f.Read(k, 1)
	c.f.Search(k, 1, nil)
	if c.mem.Writes() != writes {
		t.Error("something was written")
	}
}

// expectCorrupt makes calls for a file with an item that is not that of a content.
func expectCorrupt(t *testing.T, c *card, h int, item []byte) {
	t.Helper()
	expect(t, "Put", c.v.Put(api.ItemContents+h, item), api.OK)
	f, _ := c.t.Header(h)
	if f.Kind == api.FileBinary {
		b, e := c.f.ReadBinary(h, 0, 1)
		if len(b) > 0 || e != api.ErrCorrupt {
			t.Fatalf("ReadBinary of %x returns %x, %d", item, b, e)
		}
		expect(t, "UpdateBinary", c.f.UpdateBinary(h, 0, make([]byte, f.Size)), api.ErrCorrupt)
		expect(t, "Erase", c.f.Erase(h, 0, f.Size), api.ErrCorrupt)
		expect(t, "Erase", c.f.Erase(h, 1, f.Size), api.ErrRange)
		return
	}
	n, e := c.f.Count(h)
	b, e2 := c.f.Read(h, 1)
	l, e3 := c.f.Search(h, 1, nil)
	if e != api.ErrCorrupt || e2 != api.ErrCorrupt || e3 != api.ErrCorrupt || n+len(b)+len(l) > 0 {
		t.Fatalf("calls for %x return %d %x %d, and %d %d %d", item, n, b, l, e, e2, e3)
	}
	expect(t, "Append", c.f.Append(h, make([]byte, f.Length)), api.ErrCorrupt)
	expect(t, "Append", c.f.Append(h, make([]byte, f.Length+1)), api.ErrLong)
	expect(t, "Update", c.f.Update(h, 1, make([]byte, f.Length)), api.ErrCorrupt)
	if b, ok := c.v.Get(api.ItemContents + h); !ok || !bytes.Equal(b, item) {
		t.Fatal("the item has changed")
	}
}

// TestItemsThatAreNoContents is about items that no Files writes.
func TestItemsThatAreNoContents(t *testing.T) {
	c := newCard(t, 16384)
	h := c.create(t, binary(1, 4))
	for _, n := range []int{0, 1, 3, 5, 1024, 2048} {
		expectCorrupt(t, c, h, make([]byte, n))
	}
	for i, kind := range []int{api.FileLinear, api.FileCyclic} {
		h := c.create(t, listed(2+i, kind, 3, 4))
		for _, n := range []int{1, 2, 4, 11, 13, 15, 300, 2048} {
			expectCorrupt(t, c, h, make([]byte, n))
		}
	}
	h = c.create(t, listed(4, api.FileVariable, 3, 4))
	for _, item := range [][]byte{{1}, {2, 0}, {0, 0, 0, 0, 0}, {4, 1, 2, 3, 4}, {3, 1, 2, 3, 1}, {255}, {3, 1, 2}, make([]byte, 2048)} {
		expectCorrupt(t, c, h, item)
	}
}

// Transactions and room

// fillBuffer begins a transaction, and leaves a number of bytes of its buffer.
func fillBuffer(t *testing.T, v *vault.Vault, left int) {
	t.Helper()
	expect(t, "Begin", v.Begin(), api.OK)
	for id := 2000; v.Left() > left; id++ {
		n := min(2000, v.Left()-left-8)
		if rest := v.Left() - left - 8 - n; rest > 0 && rest < 8 {
			n -= 8
		}
		expect(t, "Put", v.Put(id, make([]byte, n)), api.OK)
	}
}

// TestFullBuffer makes changes in a transaction whose buffer has less and less room.
func TestFullBuffer(t *testing.T) {
	c := newCard(t, 16384)
	h, k := c.create(t, binary(1, 20)), c.create(t, listed(2, api.FileCyclic, 9, 2))
	expect(t, "Append", c.f.Append(k, []byte("123456789")), api.OK)
	failed := 0
	for left := 0; left < 60; left++ {
		for i, change := range []func() api.Errno{
			func() api.Errno { return c.f.UpdateBinary(h, 3, []byte{1, 2}) },
			func() api.Errno { return c.f.Erase(h, 3, 2) },
			func() api.Errno { return c.f.Append(k, []byte("abcdefghi")) },
			func() api.Errno { return c.f.Update(k, 1, []byte("abcdefghi")) },
		} {
			fillBuffer(t, c.v, left)
			mark := c.v.Save()
			if e := change(); e != api.OK {
				failed++
				expect(t, "a change", e, api.ErrBuffer)
				if c.v.Save() != mark {
					t.Fatal("the change", i, "was made in part")
				}
				b, e := c.f.ReadBinary(h, 0, 20)
				expectBytes(t, "ReadBinary", b, e, make([]byte, 20)...)
				expectRecords(t, c.f, k, [][]byte{[]byte("123456789")})
			}
			expect(t, "Abort", c.v.Abort(), api.OK)
		}
	}
	if failed < 20 || failed > 200 {
		t.Error(failed, "changes have failed")
	}
	expectRecords(t, c.f, k, [][]byte{[]byte("123456789")})
}

// TestFullVault is about a vault without room for a content.
func TestFullVault(t *testing.T) {
	c := newCard(t, 60*24) // with a room of 672
	h, k := c.create(t, binary(1, 1024)), c.create(t, listed(2, api.FileVariable, 100, 10))
	expect(t, "UpdateBinary", c.f.UpdateBinary(h, 0, []byte{1}), api.ErrFull)
	b, e := c.f.ReadBinary(h, 0, 2)
	expectBytes(t, "ReadBinary", b, e, 0, 0)
	var want [][]byte
	for {
		b := bytes.Repeat([]byte{byte(len(want))}, 100)
		e := c.f.Append(k, b)
		if e != api.OK {
			expect(t, "Append", e, api.ErrFull)
			break
		}
		want = append(want, b)
	}
	if len(want) < 2 || len(want) > 6 {
		t.Error(len(want), "records")
	}
	expectRecords(t, c.f, k, want)
	want[0] = nil
	expect(t, "Update", c.f.Update(k, 1, nil), api.OK)
	expectRecords(t, c.f, k, want)
}
