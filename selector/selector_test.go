package selector_test

import (
	"bytes"
	"math"
	"slices"
	"testing"

	"smartcard/api"
	"smartcard/cell"
	"smartcard/filehead"
	"smartcard/selector"
	"smartcard/tree"
	"smartcard/vault"
)

const forever = 1 << 40 // an endurance that no test reaches

// card is a memory, and what lies on it.
type card struct {
	mem *cell.Memory
	v   *vault.Vault
	t   *tree.Tree
}

func newCard(t *testing.T) *card {
	t.Helper()
	m, _, e := vault.New(api.MemoryConfig{Words: 16384, Endurance: forever})
	expect(t, "vault.New", e, api.OK)
	return mounted(t, m)
}

// mounted returns the card with a memory that has power.
func mounted(t *testing.T, m *cell.Memory) *card {
	t.Helper()
	v, e := vault.Mount(m)
	expect(t, "Mount", e, api.OK)
	x, e := tree.Open(v)
	expect(t, "tree.Open", e, api.OK)
	return &card{m, v, x}
}

func expect(t *testing.T, what string, got, want api.Errno) {
	t.Helper()
	if got != want {
		t.Fatal(what, "returns", got, "and not", want)
	}
}

func created(t *testing.T, x *tree.Tree) *selector.Selector {
	t.Helper()
	s := selector.New(x)
	if s == nil {
		t.Fatal("New returns nil")
	}
	return s
}

// create creates a file, which has to get a handle.
func create(t *testing.T, x *tree.Tree, dir int, f api.File, want int) {
	t.Helper()
	if h, e := x.Create(dir, f); h != want || e != api.OK {
		t.Fatal("Create returns", h, e, "and not", want)
	}
}

func directory(id int, name string) api.File {
	return api.File{ID: id, Kind: api.FileDF, Name: []byte(name), State: api.FileActive}
}

func binary(id, short int) api.File {
	return api.File{ID: id, Kind: api.FileBinary, Short: short, Size: 4, State: api.FileActive}
}

// sample returns a card with these files:
//
//	2 directory 7f10 "abc"
//	   3 file 6f01, short 1
//	   4 directory 5000 "abd"
//	      5 file 6f01, short 2
//	      6 directory 5000 ""
//	         7 file 7f10
//	      8 file 6f05, short 30
//	9 file 6f01, short 1
//	10 directory 5000 "ab"
//	11 file 6f02, linear, short 2
func sample(t *testing.T) *card {
	t.Helper()
	c := newCard(t)
	create(t, c.t, 1, directory(0x7f10, "abc"), 2)
	create(t, c.t, 2, binary(0x6f01, 1), 3)
	create(t, c.t, 2, directory(0x5000, "abd"), 4)
	create(t, c.t, 4, binary(0x6f01, 2), 5)
	create(t, c.t, 4, directory(0x5000, ""), 6)
	create(t, c.t, 6, binary(0x7f10, 0), 7)
	create(t, c.t, 4, binary(0x6f05, 30), 8)
	create(t, c.t, 1, binary(0x6f01, 1), 9)
	create(t, c.t, 1, directory(0x5000, "ab"), 10)
	create(t, c.t, 1, api.File{ID: 0x6f02, Kind: api.FileLinear, Short: 2, Length: 3, Records: 2, State: api.FileInactive}, 11)
	return c
}

// places are the ways to each file of sample from the master file, and what is current then.
var places = map[int]struct {
	path      []byte
	dir, file int
}{
	2:  {[]byte{0x7f, 0x10}, 2, 0},
	3:  {[]byte{0x7f, 0x10, 0x6f, 1}, 2, 3},
	4:  {[]byte{0x7f, 0x10, 0x50, 0}, 4, 0},
	5:  {[]byte{0x7f, 0x10, 0x50, 0, 0x6f, 1}, 4, 5},
	6:  {[]byte{0x7f, 0x10, 0x50, 0, 0x50, 0}, 6, 0},
	7:  {[]byte{0x7f, 0x10, 0x50, 0, 0x50, 0, 0x7f, 0x10}, 6, 7},
	8:  {[]byte{0x7f, 0x10, 0x50, 0, 0x6f, 5}, 4, 8},
	9:  {[]byte{0x6f, 1}, 1, 9},
	10: {[]byte{0x50, 0}, 10, 0},
	11: {[]byte{0x6f, 2}, 1, 11},
}

// at returns a selector for which a file is current.
func at(t *testing.T, x *tree.Tree, h int) *selector.Selector {
	t.Helper()
	s := created(t, x)
	if h != 1 {
		selects(t, s, 8, 0, places[h].path, h)
	}
	return s
}

// selects selects a file, which has to have a handle.
func selects(t *testing.T, s *selector.Selector, p1, p2 int, data []byte, want int) {
	t.Helper()
	if h, e := s.Select(p1, p2, data); h != want || e != api.OK {
		t.Fatalf("Select of %x %x %x returns %d, %d and not %d", p1, p2, data, h, e, want)
	}
}

// selectsNot expects an error, with which nothing changes.
func selectsNot(t *testing.T, s *selector.Selector, p1, p2 int, data []byte, want api.Errno) {
	t.Helper()
	dir, file := s.Current()
	if h, e := s.Select(p1, p2, data); h != 0 || e != want {
		t.Fatalf("Select of %x %x %x returns %d, %d and not %d", p1, p2, data, h, e, want)
	}
	expectCurrent(t, s, dir, file)
}

func expectCurrent(t *testing.T, s *selector.Selector, dir, file int) {
	t.Helper()
	if d, f := s.Current(); d != dir || f != file {
		t.Fatal("current are", d, f, "and not", dir, file)
	}
}

// Examples

func TestExamples(t *testing.T) {
	c := newCard(t)
	create(t, c.t, 1, directory(0x7f10, ""), 2)
	create(t, c.t, 2, binary(0x6f01, 0), 3)
	s := created(t, c.t)
	selects(t, s, 0, 0x0c, []byte{0x7f, 0x10}, 2)
	expectCurrent(t, s, 2, 0)
	selects(t, s, 2, 0x0c, []byte{0x6f, 1}, 3)
	expectCurrent(t, s, 2, 3)
	selects(t, s, 0, 0x0c, []byte{0x7f, 0x10}, 2)
	expectCurrent(t, s, 2, 0)
	selects(t, s, 3, 0x0c, nil, 1)
	expectCurrent(t, s, 1, 0)
	for _, h := range []int{1, 2} {
		selects(t, s, 8, 0x0c, []byte{0x7f, 0x10, 0x6f, 1}, 3)
		expectCurrent(t, s, 2, 3)
		selectsNot(t, s, 8, 0x0c, []byte{0x7f}, api.ErrForm)
		selects(t, s, 0, 0x0c, [][]byte{nil, {0x7f, 0x10}}[h-1], h)
	}
}

// P18.1

// TestPlaces selects each file of the sample by its path.
func TestPlaces(t *testing.T) {
	c := sample(t)
	for h, x := range places {
		expectCurrent(t, at(t, c.t, h), x.dir, x.file)
	}
	expectCurrent(t, at(t, c.t, 1), 1, 0)
}

// TestRowsOfTheTable goes from one file to another, or nowhere (0: ErrNone).
func TestRowsOfTheTable(t *testing.T) {
	c := sample(t)
	for _, x := range []struct {
		from, p1, p2 int
		data         []byte
		to           int
	}{
		{1, 0, 0, nil, 1},
		{7, 0, 4, nil, 1},
		{7, 0, 8, []byte{0x3f, 0}, 1},
		{3, 0, 12, []byte{0x3f, 0}, 1},
		{1, 0, 0, []byte{0x3f, 0}, 1},
		{1, 0, 0, []byte{0x7f, 0x10}, 2},  // a child
		{9, 0, 0, []byte{0x6f, 1}, 9},     // a child, which is current
		{9, 0, 0, []byte{0x6f, 2}, 11},    // a child
		{4, 0, 0, []byte{0x6f, 1}, 5},     // a child
		{4, 0, 0, []byte{0x50, 0}, 6},     // a child before the directory itself
		{6, 0, 0, []byte{0x50, 0}, 6},     // the directory before its parent
		{7, 0, 0, []byte{0x50, 0}, 6},     // the directory
		{8, 0, 0, []byte{0x7f, 0x10}, 2},  // the parent
		{7, 0, 0, []byte{0x7f, 0x10}, 7},  // a child
		{4, 0, 0, []byte{0x7f, 0x10}, 2},  // the parent
		{10, 0, 0, []byte{0x50, 0}, 10},   // the directory
		{10, 0, 0, []byte{0x7f, 0x10}, 0}, // a brother
		{6, 0, 0, []byte{0x6f, 5}, 0},     // a brother
		{1, 0, 0, []byte{0x6f, 5}, 0},     // deep below
		{6, 0, 0, []byte{0x6f, 1}, 0},
		{1, 0, 0, []byte{0, 0}, 0},
		{1, 0, 0, []byte{0xff, 0xff}, 0},

		{1, 1, 0, []byte{0x7f, 0x10}, 2},
		{11, 1, 4, []byte{0x50, 0}, 10},
		{4, 1, 8, []byte{0x50, 0}, 6},
		{6, 1, 0, []byte{0x50, 0}, 0},    // itself
		{4, 1, 0, []byte{0x7f, 0x10}, 0}, // the parent
		{6, 1, 0, []byte{0x7f, 0x10}, 0}, // an elementary file
		{1, 1, 0, []byte{0x6f, 1}, 0},    // an elementary file
		{1, 1, 0, []byte{0x3f, 0}, 0},
		{2, 1, 0, []byte{0x3f, 0}, 0},

		{1, 2, 0, []byte{0x6f, 1}, 9},
		{1, 2, 12, []byte{0x6f, 2}, 11},
		{5, 2, 0, []byte{0x6f, 5}, 8},
		{6, 2, 0, []byte{0x7f, 0x10}, 7},
		{1, 2, 0, []byte{0x7f, 0x10}, 0}, // a directory
		{4, 2, 0, []byte{0x50, 0}, 0},    // a directory
		{6, 2, 0, []byte{0x6f, 1}, 0},
		{1, 2, 0, []byte{0x3f, 0}, 0},

		{7, 3, 0, nil, 4},
		{6, 3, 4, nil, 4},
		{4, 3, 8, nil, 2},
		{3, 3, 12, nil, 1},
		{1, 3, 0, nil, 0},
		{9, 3, 0, nil, 0},

		{1, 4, 0, []byte("a"), 2},
		{7, 4, 4, []byte("ab"), 2},
		{4, 4, 8, []byte("abc"), 2},
		{1, 4, 12, []byte("abd"), 4},
		{1, 4, 2, []byte("ab"), 2},
		{2, 4, 2, []byte("ab"), 4},
		{3, 4, 6, []byte("ab"), 4},
		{4, 4, 10, []byte("ab"), 10},
		{7, 4, 14, []byte("ab"), 10},
		{10, 4, 2, []byte("ab"), 0},
		{2, 4, 2, []byte("abc"), 0},
		{1, 4, 0, []byte("abcd"), 0},
		{1, 4, 0, []byte("b"), 0},
		{1, 4, 0, []byte("0123456789abcdef"), 0},

		{1, 8, 0, []byte{0x50, 0}, 10},
		{7, 8, 4, []byte{0x50, 0}, 10},
		{6, 8, 8, []byte{0x7f, 0x10, 0x50, 0, 0x6f, 5}, 8},
		{6, 8, 0, []byte{0x50, 0, 0x50, 0}, 0},
		{6, 8, 0, []byte{0x7f, 0x10, 0x7f, 0x10}, 0},
		{1, 8, 0, []byte{0x3f, 0}, 0},
		{1, 8, 0, []byte{0x3f, 0, 0x7f, 0x10}, 0},
		{1, 8, 0, []byte{0x6f, 1, 0x6f, 1}, 0},
		{1, 8, 0, bytes.Repeat([]byte{0x50, 0}, 8), 0},

		{1, 9, 0, []byte{0x50, 0}, 10},
		{2, 9, 4, []byte{0x50, 0}, 4},
		{5, 9, 8, []byte{0x50, 0}, 6},
		{2, 9, 12, []byte{0x50, 0, 0x50, 0, 0x7f, 0x10}, 7},
		{3, 9, 0, []byte{0x50, 0, 0x6f, 5}, 8},
		{6, 9, 0, []byte{0x50, 0}, 0},
		{4, 9, 0, []byte{0x7f, 0x10}, 0},
		{1, 9, 0, bytes.Repeat([]byte{0x50, 0}, 8), 0},
	} {
		s := at(t, c.t, x.from)
		if x.to == 0 {
			selectsNot(t, s, x.p1, x.p2, x.data, api.ErrNone)
			continue
		}
		selects(t, s, x.p1, x.p2, x.data, x.to)
		if x.to == 1 {
			expectCurrent(t, s, 1, 0)
		} else {
			expectCurrent(t, s, places[x.to].dir, places[x.to].file)
		}
	}
}

// TestParameters tries all values of P1 and P2, with data that would be wrong for each.
func TestParameters(t *testing.T) {
	s := created(t, sample(t).t)
	infos := []int{0, 4, 8, 12}
	others := []int{-1, -4, -12, -256, math.MinInt, math.MinInt + 4, math.MaxInt, 1 << 32, 256 + 8, 1 << 8}
	for p1 := range 0x110 {
		for p2 := range 0x110 {
			expectParameters(t, s, p1, p2, slices.Contains(infos, p2) && slices.Contains([]int{0, 1, 2, 3, 8, 9}, p1) || p1 == 4 && slices.Contains(infos, p2&^2))
		}
		for _, p2 := range others {
			expectParameters(t, s, p1, p2, false)
		}
	}
	for _, p1 := range others {
		for p2 := range 16 {
			expectParameters(t, s, p1, p2, false)
		}
	}
}

func expectParameters(t *testing.T, s *selector.Selector, p1, p2 int, valid bool) {
	t.Helper()
	e := api.ErrArg
	if valid {
		e = api.ErrForm
	}
	selectsNot(t, s, p1, p2, make([]byte, 17), e)
}

// TestForms tries data of all lengths.
func TestForms(t *testing.T) {
	s := created(t, sample(t).t)
	for n := range 40 {
		for p1, ok := range map[int]bool{
			0: n == 0 || n == 2,
			1: n == 2,
			2: n == 2,
			3: n == 0,
			4: n >= 1 && n <= 16,
			8: n >= 2 && n <= 16 && n%2 == 0,
			9: n >= 2 && n <= 16 && n%2 == 0,
		} {
			switch {
			case p1 == 0 && n == 0:
				selects(t, s, 0, 0, nil, 1)
			case ok:
				selectsNot(t, s, p1, 0, make([]byte, n), api.ErrNone)
			default:
				selectsNot(t, s, p1, 0, make([]byte, n), api.ErrForm)
			}
		}
	}
	selectsNot(t, s, 4, 2, make([]byte, 1<<16), api.ErrForm)
	selectsNot(t, s, 8, 0, make([]byte, 1<<16), api.ErrForm)
}

// TestDataAreOnlyRead gives data with bytes behind them.
func TestDataAreOnlyRead(t *testing.T) {
	s := created(t, sample(t).t)
	whole := []byte{0x7f, 0x10, 0x50, 0, 0x6f, 5, 0xee}
	before := bytes.Clone(whole)
	for n, h := range map[int]int{2: 2, 4: 4, 6: 8} {
		selects(t, s, 8, 0, whole[:n], h)
		selects(t, s, 0, 0, whole[:0], 1)
		selects(t, s, 9, 0, whole[:n], h)
	}
	selects(t, s, 0, 0, whole[:0], 1)
	selects(t, s, 0, 0, whole[:2], 2)
	if !bytes.Equal(whole, before) {
		t.Error("the data have changed")
	}
}

// TestDeepPath goes down to the greatest depth.
func TestDeepPath(t *testing.T) {
	c := newCard(t)
	for h := 2; h <= 8; h++ {
		create(t, c.t, h-1, directory(0x100+h, ""), h)
	}
	var path []byte
	s := created(t, c.t)
	for h := 2; h <= 8; h++ {
		path = append(path, 1, byte(h))
		selects(t, s, 8, 0, path, h)
		expectCurrent(t, s, h, 0)
	}
	selectsNot(t, s, 8, 0, append(path, 1, 9), api.ErrNone)
	selectsNot(t, s, 8, 0, append(path, 1, 9, 1, 9), api.ErrForm)
	for h := 7; h >= 1; h-- {
		selects(t, s, 3, 0, nil, h)
		expectCurrent(t, s, h, 0)
	}
	selectsNot(t, s, 3, 0, nil, api.ErrNone)
}

// P18.2

func TestShort(t *testing.T) {
	c := sample(t)
	short := func(from, n, h int, e api.Errno) {
		t.Helper()
		s := at(t, c.t, from)
		dir, file := s.Current()
		if got, err := s.Short(n); got != h || err != e {
			t.Fatal("Short of", n, "returns", got, err, "and not", h, e)
		}
		if h > 0 {
			dir, file = places[h].dir, places[h].file
		}
		expectCurrent(t, s, dir, file)
	}
	short(1, 1, 9, api.OK)
	short(9, 1, 9, api.OK)
	short(9, 2, 11, api.OK)
	short(2, 1, 3, api.OK)
	short(5, 2, 5, api.OK)
	short(5, 30, 8, api.OK)
	short(6, 1, 0, api.ErrNone)
	short(2, 2, 0, api.ErrNone)
	short(1, 30, 0, api.ErrNone)
	for _, n := range []int{0, -1, 31, 32, 255, 257, math.MaxInt, math.MinInt} {
		short(6, n, 0, api.ErrRange)
	}
}

// P18.3

// removals are ways to make what is current not exist any more.
var removals = []struct {
	from      int
	remove    []int
	dir, file int // what is current after Refresh
}{
	{5, []int{5}, 4, 0},
	{8, []int{5}, 4, 8},
	{10, []int{10}, 1, 0},
	{7, []int{7}, 6, 0},
	{7, []int{7, 6}, 1, 0},
	{6, []int{7, 6}, 1, 0},
	{6, []int{7, 6, 5, 8, 4, 3, 2}, 1, 0},
	{9, []int{10, 11}, 1, 9},
	{9, []int{9}, 1, 0},
	{1, []int{9}, 1, 0},
}

// remove removes files, and checks that nothing but a call of the selector changes what is current.
func remove(t *testing.T, c *card, s *selector.Selector, l []int) {
	t.Helper()
	dir, file := s.Current()
	for _, h := range l {
		expect(t, "Remove", c.t.Remove(h), api.OK)
	}
	expectCurrent(t, s, dir, file)
}

func TestRefresh(t *testing.T) {
	for _, x := range removals {
		c := sample(t)
		s := at(t, c.t, x.from)
		remove(t, c, s, x.remove)
		s.Refresh()
		expectCurrent(t, s, x.dir, x.file)
		s.Refresh()
		expectCurrent(t, s, x.dir, x.file)
	}
}

// TestRefreshByOtherCalls refreshes by Select and Short, which return errors, or find something then.
func TestRefreshByOtherCalls(t *testing.T) {
	for _, x := range removals {
		for _, call := range []func(s *selector.Selector) (int, api.Errno){
			func(s *selector.Selector) (int, api.Errno) { return s.Select(5, 0, nil) },
			func(s *selector.Selector) (int, api.Errno) { return s.Select(0, 1, nil) },
			func(s *selector.Selector) (int, api.Errno) { return s.Select(0, 0, make([]byte, 3)) },
			func(s *selector.Selector) (int, api.Errno) { return s.Select(0, 0, make([]byte, 2)) },
			func(s *selector.Selector) (int, api.Errno) { return s.Short(31) },
			func(s *selector.Selector) (int, api.Errno) { return s.Short(29) },
		} {
			c := sample(t)
			s := at(t, c.t, x.from)
			remove(t, c, s, x.remove)
			if h, e := call(s); h != 0 || e == api.OK {
				t.Error("a call returns", h, e)
			}
			expectCurrent(t, s, x.dir, x.file)
		}
	}
	c := sample(t)
	s := at(t, c.t, 7)
	remove(t, c, s, []int{7, 6})
	selects(t, s, 0, 0, []byte{0x6f, 2}, 11) // in the master file
	expectCurrent(t, s, 1, 11)
	s = at(t, c.t, 10)
	remove(t, c, s, []int{10})
	if h, e := s.Short(1); h != 9 || e != api.OK {
		t.Error("Short returns", h, e)
	}
	s = at(t, c.t, 4)
	remove(t, c, s, []int{5, 8, 4})
	selects(t, s, 4, 2, []byte("ab"), 2) // after the master file
}

// TestRefreshWithOtherFiles gives the handles of what is current to other files.
func TestRefreshWithOtherFiles(t *testing.T) {
	c := sample(t)
	s := at(t, c.t, 7)
	remove(t, c, s, []int{7})
	create(t, c.t, 6, binary(1, 0), 7) // another elementary file in the directory
	s.Refresh()
	expectCurrent(t, s, 6, 7)
	remove(t, c, s, []int{7})
	create(t, c.t, 4, binary(1, 0), 7) // in another directory
	s.Refresh()
	expectCurrent(t, s, 6, 0)

	s = at(t, c.t, 8)
	remove(t, c, s, []int{8})
	create(t, c.t, 4, directory(2, ""), 8) // a directory in the directory
	s.Refresh()
	expectCurrent(t, s, 4, 0)

	s = at(t, c.t, 10)
	remove(t, c, s, []int{10})
	create(t, c.t, 2, directory(1, ""), 10) // another directory
	s.Refresh()
	expectCurrent(t, s, 10, 0)
	remove(t, c, s, []int{10})
	create(t, c.t, 1, binary(1, 0), 10) // no directory
	s.Refresh()
	expectCurrent(t, s, 1, 0)
}

// TestRefreshWhereTheFileRemains gives the handle of the current directory to an elementary file, and that of the current file to one in the master file, which is not current then.
func TestRefreshWhereTheFileRemains(t *testing.T) {
	c := newCard(t)
	create(t, c.t, 1, directory(1, ""), 2)
	create(t, c.t, 2, binary(2, 0), 3)
	s := created(t, c.t)
	selects(t, s, 8, 0, []byte{0, 1, 0, 2}, 3)
	remove(t, c, s, []int{3, 2})
	create(t, c.t, 1, binary(5, 0), 2)
	create(t, c.t, 1, binary(6, 0), 3)
	s.Refresh()
	expectCurrent(t, s, 1, 0)
}

// TestAbort is about files of a transaction.
func TestAbort(t *testing.T) {
	c := newCard(t)
	s := created(t, c.t)
	expect(t, "Begin", c.v.Begin(), api.OK)
	create(t, c.t, 1, directory(5, ""), 2)
	create(t, c.t, 2, binary(6, 1), 3)
	selects(t, s, 0, 0, []byte{0, 5}, 2)
	selects(t, s, 2, 0, []byte{0, 6}, 3)
	expect(t, "Abort", c.v.Abort(), api.OK)
	expectCurrent(t, s, 2, 3)
	s.Refresh()
	expectCurrent(t, s, 1, 0)
}

func TestReset(t *testing.T) {
	c := sample(t)
	for h := 1; h <= 11; h++ {
		s := at(t, c.t, h)
		s.Reset()
		expectCurrent(t, s, 1, 0)
	}
}

// P18.4

func TestInfo(t *testing.T) {
	c := sample(t)
	s := at(t, c.t, 5)
	for h := 1; h <= 11; h++ {
		f, _ := c.t.Header(h)
		head, _ := filehead.Encode(f)
		about := []byte{0x64, 0}
		if n := byte(len(f.Name)); n > 0 {
			about = slices.Concat([]byte{0x64, n + 2, 0x84, n}, f.Name)
		}
		for _, p2 := range []int{0, 1, 2, 3, 0x10, 0xf0, 0x100, -0x10, math.MinInt} {
			expectInfo(t, s, h, p2, slices.Concat([]byte{0x6f, byte(len(head))}, head))
			expectInfo(t, s, h, p2|4, head)
			expectInfo(t, s, h, p2|8, about)
			expectInfo(t, s, h, p2|12, nil)
		}
	}
	for _, h := range []int{0, -1, 12, 128, 129, 256, -256, math.MaxInt, math.MinInt} {
		for p2 := range 16 {
			if b, e := s.Info(h, p2); len(b) > 0 || e != api.ErrNone {
				t.Error("Info of", h, "returns", b, e)
			}
		}
	}
	expectCurrent(t, s, 4, 5)
}

func expectInfo(t *testing.T, s *selector.Selector, h, p2 int, want []byte) {
	t.Helper()
	if b, e := s.Info(h, p2); e != api.OK || !bytes.Equal(b, want) {
		t.Fatalf("Info of %d with P2 %x returns %x, %d and not %x", h, p2, b, e, want)
	}
}

// TestInfoOfTheLargestHeader is about file control parameters that are as long as possible.
func TestInfoOfTheLargestHeader(t *testing.T) {
	c := newCard(t)
	f := directory(5, "0123456789abcdef")
	kids := slices.Repeat([]api.Cond{{Op: api.CondState, N: 5}}, 15)
	f.Rules = slices.Repeat([]api.Rule{{Ops: api.OpAll, Cond: api.Cond{Op: api.CondAnd, Kids: kids}}}, 8)
	create(t, c.t, 1, f, 2)
	head, _ := filehead.Encode(f)
	n := len(head)
	expectInfo(t, created(t, c.t), 2, 0, slices.Concat([]byte{0x6f, 0x82, byte(n >> 8), byte(n)}, head))
	expectInfo(t, created(t, c.t), 2, 4, head)
	expectInfo(t, created(t, c.t), 2, 8, append([]byte{0x64, 18, 0x84, 16}, f.Name...))
}

// TestInfoDoesNotRefresh removes what is current.
func TestInfoDoesNotRefresh(t *testing.T) {
	c := sample(t)
	s := at(t, c.t, 10)
	remove(t, c, s, []int{10})
	if _, e := s.Info(10, 0); e != api.ErrNone {
		t.Error(e)
	}
	expectInfo(t, s, 1, 12, nil)
	expectCurrent(t, s, 10, 0)
}

// Objects, and power

// expectUnusable makes all calls of a selector that cannot be used; what is current does not change but by Reset.
func expectUnusable(t *testing.T, s *selector.Selector, want api.Errno) {
	t.Helper()
	dir, file := s.Current()
	for _, p1 := range []int{-1, 0, 1, 2, 3, 4, 5, 8, 9} {
		for n := range 4 {
			selectsNot(t, s, p1, 0, make([]byte, n), want)
			selectsNot(t, s, p1, 1, make([]byte, n), want)
		}
	}
	for _, n := range []int{-1, 0, 1, 30, 31} {
		if h, e := s.Short(n); h != 0 || e != want {
			t.Fatal("Short returns", h, e)
		}
		if b, e := s.Info(n, 4); len(b) > 0 || e != want {
			t.Fatal("Info returns", b, e)
		}
	}
	s.Refresh()
	expectCurrent(t, s, dir, file)
}

func TestNoSelector(t *testing.T) {
	if s := selector.New(nil); s != nil {
		t.Error("New returns", s)
	}
	for _, s := range []*selector.Selector{nil, {}} {
		expectUnusable(t, s, api.ErrNil)
		s.Reset()
		expectCurrent(t, s, 0, 0)
	}
}

// TestNoMasterFile is about trees that have no master file, as if there were no power.
func TestNoMasterFile(t *testing.T) {
	s := created(t, &tree.Tree{})
	expectCurrent(t, s, 1, 0)
	expectUnusable(t, s, api.ErrPower)
	_, v, e := vault.New(api.MemoryConfig{Words: 16384, Endurance: forever})
	expect(t, "New", e, api.OK)
	expect(t, "Begin", v.Begin(), api.OK)
	x, e := tree.Open(v)
	expect(t, "Open", e, api.OK)
	create(t, x, 1, directory(5, ""), 2)
	s = created(t, x)
	selects(t, s, 1, 0, []byte{0, 5}, 2)
	expect(t, "Abort", v.Abort(), api.OK)
	expectUnusable(t, s, api.ErrPower)
}

// TestNoPower cuts the power: selectors remain as they are, but can be reset. After the power is restored, a new selector begins at the master file.
func TestNoPower(t *testing.T) {
	c := sample(t)
	s, r := at(t, c.t, 7), at(t, c.t, 5)
	writes := c.mem.Writes()
	at(t, c.t, 8).Short(30)
	if c.mem.Writes() != writes {
		t.Error("a selector writes something")
	}
	c.mem.Cut(0)
	expect(t, "Remove", c.t.Remove(7), api.ErrPower)
	for range 2 { // without power, and with power again
		expectUnusable(t, s, api.ErrPower)
		expectCurrent(t, s, 6, 7)
		expectUnusable(t, r, api.ErrPower)
		r.Reset()
		expectCurrent(t, r, 1, 0)
		expectUnusable(t, created(t, c.t), api.ErrPower)
		c.mem.Restore()
	}
	c = mounted(t, c.mem)
	expectCurrent(t, created(t, c.t), 1, 0)
	expectCurrent(t, at(t, c.t, 7), 6, 7)
}

// TestTwoSelectors is about selectors for one tree: each has its own current files, and sees all changes.
func TestTwoSelectors(t *testing.T) {
	c := sample(t)
	a, b := at(t, c.t, 5), at(t, c.t, 8)
	selects(t, a, 3, 0, nil, 2)
	expectCurrent(t, b, 4, 8)
	remove(t, c, b, []int{5, 8})
	selectsNot(t, a, 9, 0, []byte{0x50, 0, 0x6f, 1}, api.ErrNone)
	b.Refresh()
	expectCurrent(t, b, 4, 0)
}
