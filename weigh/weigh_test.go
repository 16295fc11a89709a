package weigh_test

import (
	"math"
	"slices"
	"testing"

	"umbral/weigh"
)

var (
	nought    = 0.0
	signed    = math.Copysign(0, -1)
	endless   = math.Inf(1)
	bottom    = math.Inf(-1)
	greatest  = math.MaxFloat64
	least     = math.SmallestNonzeroFloat64
	nan       = math.NaN()
	nanSigned = math.Copysign(math.NaN(), -1)
	nanQuiet  = math.Float64frombits(0x7FF8000000000777)
	nanLoud   = math.Float64frombits(0x7FF0000000000001)
	nanLast   = math.Float64frombits(0xFFFFFFFFFFFFFFFF)
)

// ladder holds floats of any kind, each Less than the next one.
func ladder() []float64 {
	return []float64{
		bottom, -greatest, math.Nextafter(-greatest, 0), -1e100, -2,
		math.Nextafter(-1, -2), -1, math.Nextafter(-1, 0), -0.5,
		-0x1p-1022, math.Nextafter(-0x1p-1022, 0), -2 * least, -least,
		signed, nought,
		least, 2 * least, math.Nextafter(0x1p-1022, 0), 0x1p-1022,
		0.5, math.Nextafter(1, 0), 1, math.Nextafter(1, 2),
		2, 3, 1e100, math.Nextafter(greatest, 0), greatest, endless,
	}
}

// nans holds NaNs of several kinds, which are all alike.
func nans() []float64 {
	return []float64{nan, nanSigned, nanQuiet, nanLoud, nanLast}
}

func floats() []float64 { return append(ladder(), nans()...) }

// key is a number that is less for one float than for another one just if the float is Less:
// the bits of a float without a sign rise with it, those of one with a sign fall.
func key(x float64) uint64 {
	b := math.Float64bits(x)
	switch {
	case x != x:
		return math.MaxUint64
	case b>>63 == 1:
		return ^b
	}
	return b | 1<<63
}

func bits(l []float64) []uint64 {
	out := make([]uint64, len(l))
	for i, x := range l {
		out[i] = math.Float64bits(x)
	}
	return out
}

// same holds floats against each other bit by bit: == tells neither a nought's sign nor a NaN.
func same(t *testing.T, what string, got, want []float64, args ...any) {
	t.Helper()
	if !slices.Equal(bits(got), bits(want)) {
		t.Errorf("%s of %v: %v, want %v", what, args, got, want)
	}
}

// one holds one float against another one; NaNs are taken for the same, whatever their bits.
func one(t *testing.T, what string, got, want float64, args ...any) {
	t.Helper()
	if got != got && want != want {
		return
	}
	same(t, what, []float64{got}, []float64{want}, args...)
}

// sorted is what Sort is to answer: each float is put behind all that are not behind it.
func sorted(l []float64) []float64 {
	var out []float64
	for _, x := range l {
		at := len(out)
		for at > 0 && key(out[at-1]) > key(x) {
			at--
		}
		out = slices.Insert(out, at, x)
	}
	return out
}

func rank(l []float64, x float64) int {
	n := 0
	for _, y := range l {
		if key(y) < key(x) {
			n++
		}
	}
	return n
}

func best(l []float64) int {
	for i, x := range l {
		ok := x == x
		for j, y := range l {
			if y == y && (key(y) > key(x) || key(y) == key(x) && j < i) {
				ok = false
			}
		}
		if ok {
			return i
		}
	}
	return -1
}

func total(l []float64) float64 {
	sum := nought
	for _, x := range sorted(l) {
		if x == x {
			sum += x
		}
	}
	return sum
}

// lists holds all lists of at most n of the floats.
func lists(n int, of []float64) [][]float64 {
	all := [][]float64{nil}
	for from := 0; n > 0; n-- {
		to := len(all)
		for _, l := range all[from:to] {
			for _, x := range of {
				all = append(all, append(slices.Clone(l), x))
			}
		}
		from = to
	}
	return all
}

// edges holds the floats of which all short lists are tried.
func edges() []float64 {
	return []float64{bottom, -1, signed, nought, least, 2, endless, nan, nanSigned, nanLoud}
}

type lot uint64

func (s *lot) below(n int) int {
	*s = *s*6364136223846793005 + 1442695040888963407
	return int(uint64(*s>>33) % uint64(n))
}

// some makes a list of n floats by lot, of which many are alike.
func (s *lot) some(n int) []float64 {
	of := floats()
	l := make([]float64, n)
	for i := range l {
		l[i] = of[s.below(len(of))]
		if s.below(3) == 0 {
			l[i] = float64(s.below(2000)-1000) / 8
		}
	}
	return l
}

func TestLess(t *testing.T) {
	up := ladder()
	for i, a := range up {
		for j, b := range up {
			if got := weigh.Less(a, b); got != (i < j) {
				t.Errorf("Less of %v and %v: %v", a, b, got)
			}
		}
		for _, b := range nans() {
			if !weigh.Less(a, b) || weigh.Less(b, a) {
				t.Errorf("%v is not ahead of NaN %x", a, math.Float64bits(b))
			}
		}
	}
	for _, a := range nans() {
		for _, b := range nans() {
			if weigh.Less(a, b) {
				t.Errorf("NaN %x is less than NaN %x", math.Float64bits(a), math.Float64bits(b))
			}
		}
	}
}

func TestLessOfChapter(t *testing.T) {
	if !weigh.Less(signed, nought) || weigh.Less(nought, signed) {
		t.Error("0 with a sign is not ahead of 0 without")
	}
	if !weigh.Less(endless, nan) || weigh.Less(nan, endless) || weigh.Less(nan, bottom) {
		t.Error("NaN is not behind all others")
	}
}

// P3.3: of two floats just one is less, or they are alike.
func TestOneIsLessOrAlike(t *testing.T) {
	for i, a := range floats() {
		for j, b := range floats() {
			less, more := weigh.Less(a, b), weigh.Less(b, a)
			alike := i == j || a != a && b != b
			if less && more || (less || more) == alike {
				t.Errorf("%v and %v: less %v, more %v", a, b, less, more)
			}
		}
	}
}

// P3.3: less is handed on, and so is that none is less.
func TestLessIsHandedOn(t *testing.T) {
	for _, a := range floats() {
		for _, b := range floats() {
			for _, c := range floats() {
				ab, bc, ac := weigh.Less(a, b), weigh.Less(b, c), weigh.Less(a, c)
				if ab && bc && !ac || !ab && !bc && ac {
					t.Fatalf("%v, %v, %v: %v, %v, %v", a, b, c, ab, bc, ac)
				}
			}
		}
	}
}

func TestSort(t *testing.T) {
	same(t, "Sort", weigh.Sort([]float64{2, -1}), []float64{-1, 2})
	same(t, "Sort", weigh.Sort([]float64{nan, 1, nought, endless, signed, nanSigned, bottom, 1, nought}),
		[]float64{bottom, signed, nought, nought, 1, 1, endless, nan, nanSigned})
	for _, l := range lists(4, edges()) {
		same(t, "Sort", weigh.Sort(l), sorted(l), l)
	}
	up := floats()
	down := floats()
	slices.Reverse(down)
	same(t, "Sort", weigh.Sort(up), up)
	slices.Reverse(down[:len(nans())])
	same(t, "Sort", weigh.Sort(down), up)
}

func TestSortByLot(t *testing.T) {
	s := lot(3)
	for n := range 300 {
		l := s.some(n)
		same(t, "Sort", weigh.Sort(l), sorted(l), l)
	}
}

func TestSortEmpty(t *testing.T) {
	if got := weigh.Sort(nil); len(got) != 0 {
		t.Errorf("Sort of nil: %v", got)
	}
	if got := weigh.Sort([]float64{}); len(got) != 0 {
		t.Errorf("Sort of an empty list: %v", got)
	}
}

// Floats that are alike stay as they stood; of NaNs it is to be seen.
func TestSortKeepsNaNsAsTheyStood(t *testing.T) {
	var l, want []float64
	for i := range 200 {
		x := math.Float64frombits(0x7FF8000000000000 | uint64(i*i%256))
		l = append(l, x, float64(-i))
		want = append(want, x)
	}
	got := weigh.Sort(l)
	same(t, "the NaNs behind", got[200:], want)
	same(t, "NaNs alone", weigh.Sort(want), want)
}

// R3: what is handed in is not changed, nor the room behind it, and the answer is new memory.
func TestSortIsNewMemory(t *testing.T) {
	for n := range 6 {
		room := []float64{5, 4, 3, 2, 1, 77, 78, 79}
		was := slices.Clone(room)
		got := weigh.Sort(room[:n])
		want := sorted(was[:n])
		same(t, "handed in to Sort", room, was)
		spare := got[:cap(got)]
		for i := range spare {
			spare[i] = -99
		}
		same(t, "room behind the answer", room, was)
		again := weigh.Sort(room[:n])
		for i := range room {
			room[i] = 1000
		}
		same(t, "answer of Sort", again, want)
	}
}

func TestRank(t *testing.T) {
	if got := weigh.Rank([]float64{1, 2, 2}, 2); got != 1 {
		t.Errorf("Rank of 1, 2, 2 and 2: %d", got)
	}
	all := floats()
	for i, x := range all {
		want := min(i, len(ladder()))
		if got := weigh.Rank(all, x); got != want {
			t.Errorf("Rank of %v: %d, want %d", x, got, want)
		}
		for _, l := range [][]float64{nil, {}, nans()} {
			if got := weigh.Rank(l, x); got != rank(l, x) {
				t.Errorf("Rank of %v and %v: %d", l, x, got)
			}
		}
	}
	for _, l := range lists(3, edges()) {
		for _, x := range floats() {
			if got := weigh.Rank(l, x); got != rank(l, x) {
				t.Errorf("Rank of %v and %v: %d", l, x, got)
			}
		}
	}
}

func TestBest(t *testing.T) {
	for _, c := range []struct {
		l    []float64
		want int
	}{
		{nil, -1}, {[]float64{}, -1}, {nans(), -1}, {[]float64{nan}, -1},
		{[]float64{1, 3}, 1}, {[]float64{3, 1}, 0}, {[]float64{3, 3}, 0}, {[]float64{1, 3, 2, 3}, 1},
		{[]float64{nan, bottom}, 1}, {[]float64{bottom, nan}, 0}, {[]float64{nan, bottom, nanLoud, bottom}, 1},
		{[]float64{signed, nought}, 1}, {[]float64{nought, signed}, 0}, {[]float64{signed, nought, nought}, 1},
		{[]float64{-1, signed, signed}, 1}, {[]float64{-least, nan, signed}, 2},
		{[]float64{greatest, endless, nan, endless}, 1}, {[]float64{bottom, -greatest}, 1},
	} {
		if got := weigh.Best(c.l); got != c.want {
			t.Errorf("Best of %v: %d, want %d", c.l, got, c.want)
		}
	}
	for _, l := range lists(4, edges()) {
		if got := weigh.Best(l); got != best(l) {
			t.Errorf("Best of %v: %d, want %d", l, got, best(l))
		}
	}
	s := lot(5)
	for n := range 60 {
		l := s.some(n)
		if got := weigh.Best(l); got != best(l) {
			t.Errorf("Best of %v: %d, want %d", l, got, best(l))
		}
	}
}

func TestShare(t *testing.T) {
	for _, c := range [][3]float64{
		{1, 4, 0.25}, {1, endless, 0}, {3, 4, 0.75}, {1, 3, 1.0 / 3}, {2, 3, 2.0 / 3},
		{4, 4, 1}, {5, 4, 1}, {endless, endless, 1}, {endless, 1, 1}, {endless, greatest, 1}, {greatest, endless, 0},
		{least, least, 1}, {greatest, greatest, 1}, {least, 2 * least, 0.5}, {least, 1, least}, {least, 2, 0},
		{least, greatest, 0}, {greatest, least, 1}, {1, greatest, 1 / greatest}, {1, math.Nextafter(1, 0), 1},
		{math.Nextafter(1, 0), 1, math.Nextafter(1, 0)}, {1, math.Nextafter(1, 2), 1 - 0x1p-52},
		{math.Nextafter(greatest, 0), greatest, math.Nextafter(1, 0)},
		{0, 4, 0}, {4, 0, 0}, {0, 0, 0}, {-1, 4, 0}, {1, -4, 0}, {-1, -4, 0}, {-4, -1, 0}, {-least, 1, 0}, {1, -least, 0},
		{nought, endless, 0}, {endless, nought, 0}, {bottom, 1, 0}, {1, bottom, 0}, {bottom, bottom, 0},
		{bottom, endless, 0}, {endless, bottom, 0},
	} {
		one(t, "Share", weigh.Share(c[0], c[1]), c[2], c[0], c[1])
	}
}

// P3.4: a share is from 0 to 1, of all floats, and is 0 or 1 without a fault of rounding.
func TestShareOfAll(t *testing.T) {
	for _, part := range floats() {
		for _, whole := range floats() {
			got := weigh.Share(part, whole)
			if !(got >= 0 && got <= 1) || math.Signbit(got) {
				t.Errorf("Share of %v and %v: %v", part, whole, got)
			}
			want := nought
			if part > 0 && whole > 0 {
				if part >= whole {
					want = 1
				} else {
					want = part / whole
				}
			}
			one(t, "Share", got, want, part, whole)
		}
	}
	for _, x := range append(nans(), signed) {
		for _, y := range floats() {
			one(t, "Share", weigh.Share(x, y), 0, x, y)
			one(t, "Share", weigh.Share(y, x), 0, y, x)
		}
	}
}

func TestTotal(t *testing.T) {
	for _, c := range []struct {
		l    []float64
		want float64
	}{
		{nil, 0}, {[]float64{}, 0}, {nans(), 0}, {[]float64{signed}, 0}, {[]float64{signed, signed, nan}, 0},
		{[]float64{1, 2, 3.5}, 6.5}, {[]float64{nan, 1, nanLoud, 2}, 3}, {[]float64{-1, 1}, 0},
		{[]float64{-1e100, 1e100, 1}, 0}, {[]float64{1, 1e100, -1e100}, 0},
		{[]float64{0x1p53, 1, 1}, 0x1p53 + 2}, {[]float64{1, 1, -0x1p54}, -0x1p54},
		{[]float64{0.1, 0.2, 0.3}, (0.1 + nought + 0.2) + 0.3}, {[]float64{0.3, 0.2, 0.1}, (0.1 + nought + 0.2) + 0.3},
		{[]float64{greatest, greatest}, endless}, {[]float64{greatest, greatest, -greatest}, greatest},
		{[]float64{-greatest, -greatest, greatest}, bottom}, {[]float64{least, least}, 2 * least},
		{[]float64{endless, 1, nan}, endless}, {[]float64{1, bottom}, bottom}, {[]float64{endless, 1, bottom}, nan},
	} {
		one(t, "Total", weigh.Total(c.l...), c.want, c.l)
	}
	one(t, "Total", weigh.Total(), 0)
	one(t, "Total", weigh.Total(0.5, 1), 1.5)
	for _, l := range lists(4, edges()) {
		one(t, "Total", weigh.Total(l...), total(l), l)
	}
	s := lot(7)
	for n := range 100 {
		l := s.some(n)
		for i, x := range l {
			if math.IsInf(x, 0) || math.Abs(x) > 1e99 {
				l[i] = 0.1 * float64(i)
			}
		}
		one(t, "Total", weigh.Total(l...), total(l), l)
	}
}

// R3 and R4: none of them changes what is handed in, and each answers the same when asked again.
func TestHandedInIsNotChanged(t *testing.T) {
	room := []float64{3, nan, signed, 1, nought, nanLoud, bottom, 2, 77, 78}
	was := slices.Clone(room)
	for n := range 9 {
		for range 2 {
			weigh.Sort(room[:n])
			one(t, "Total", weigh.Total(room[:n]...), total(was[:n]), n)
			if got := weigh.Best(room[:n]); got != best(was[:n]) {
				t.Errorf("Best of %v: %d", room[:n], got)
			}
			if got := weigh.Rank(room[:n], 1); got != rank(was[:n], 1) {
				t.Errorf("Rank of %v: %d", room[:n], got)
			}
			same(t, "handed in", room, was)
		}
	}
}
