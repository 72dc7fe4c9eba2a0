package fold_test

import (
	"fmt"
	"math"
	"math/rand"
	"slices"
	"testing"

	"hindcast/api"
	"hindcast/fold"
	"hindcast/state"
	"hindcast/step"
)

const (
	right    api.Input = 2
	fire     api.Input = 16
	greatest uint64    = math.MaxUint64
)

// model is a history by the chapter's definition: any number of pairs, from a frame on.
type model struct {
	from uint64
	most int
	l    []api.Pair
}

func (m model) count() uint64 { return m.from + uint64(len(m.l)) }

func (m *model) add(p api.Pair) api.Errno {
	switch {
	case p[0] > 63 || p[1] > 63:
		return api.ErrArg
	case len(m.l) == m.most || m.count() == greatest:
		return api.ErrFull
	}
	m.l = append(m.l, p)
	return api.OK
}

func (m *model) drop(below uint64) {
	for len(m.l) > 0 && m.from < below {
		m.l = m.l[1:]
		m.from++
	}
}

func (m model) at(f uint64) (api.Pair, bool) {
	if f < m.from || f >= m.count() {
		return api.Pair{}, false
	}
	return m.l[f-m.from], true
}

func (m model) slice(f uint64, n int) []api.Pair {
	var l []api.Pair
	for ; len(l) < n; f++ {
		p, is := m.at(f)
		if !is {
			break
		}
		l = append(l, p)
	}
	return l
}

func same[T comparable](t *testing.T, what string, got, want T) {
	t.Helper()
	if got != want {
		t.Errorf("%s: %v, not %v", what, got, want)
	}
}

func samePairs(t *testing.T, what string, got, want []api.Pair) {
	t.Helper()
	if !slices.Equal(got, want) {
		t.Errorf("%s: %v, not %v", what, got, want)
	}
}

func sameState(t *testing.T, what string, got, want api.State) {
	t.Helper()
	if !state.Same(got, want) {
		t.Errorf("%s: %v, not %v", what, got, want)
	}
}

// holdTo holds all that a history tells to what the model tells: From, Count, At, and Slice, at every frame that is held and beside them.
func holdTo(t *testing.T, what string, h *fold.History, m model) {
	t.Helper()
	if h.From() != m.from || h.Count() != m.count() { // a Slice might be too long to be told by then
		t.Fatalf("%s: From %d, Count %d, not %d, %d", what, h.From(), h.Count(), m.from, m.count())
	}
	frames := []uint64{0, 1, m.from - 1, m.count(), m.count() + 1, m.from + 256, m.count() + 255, m.from + 1<<32, greatest - 1, greatest}
	for i := range uint64(len(m.l)) {
		frames = append(frames, m.from+i)
	}
	for _, f := range frames {
		got, is := h.At(f)
		want, wanted := m.at(f)
		if got != want || is != wanted {
			t.Errorf("%s: At(%d): %v, %t, not %v, %t", what, f, got, is, want, wanted)
		}
	}
	held := len(m.l)
	for _, f := range []uint64{0, m.from - 1, m.from, m.from + 1, m.from + uint64(held/2), m.count() - 1, m.count(), m.count() + 1, greatest} {
		for _, n := range []int{math.MinInt, -1, 0, 1, 2, held - 1, held, held + 1, 256, math.MaxInt} {
			samePairs(t, fmt.Sprintf("%s: Slice(%d, %d)", what, f, n), h.Slice(f, n), m.slice(f, n))
		}
	}
}

// addTo adds p to both, and holds the history to the model's answer.
func addTo(t *testing.T, what string, h *fold.History, m *model, p api.Pair) {
	t.Helper()
	want := m.add(p)
	same(t, fmt.Sprintf("%s: Add(%v)", what, p), h.Add(p), want)
}

// filled is a history of n pairs, no two of which are equal beside each other, and its model.
func filled(t *testing.T, first uint64, most, n int) (*fold.History, model) {
	t.Helper()
	h := fold.New(first, most)
	if h == nil {
		t.Fatalf("New(%d, %d): nil", first, most)
	}
	m := model{from: first, most: most}
	for i := range n {
		addTo(t, "filling", h, &m, numbered(i))
	}
	return h, m
}

// numbered is the i-th of 4096 pairs, all of them valid.
func numbered(i int) api.Pair { return api.Pair{api.Input(i % 64), api.Input(i / 64 % 64)} }

// anyPairs are valid, and often fire.
func anyPairs(r *rand.Rand, n int) []api.Pair {
	var l []api.Pair
	for range n {
		p := api.Pair{api.Input(r.Intn(64)), api.Input(r.Intn(64))}
		if r.Intn(3) == 0 {
			p[r.Intn(2)] |= fire
		}
		l = append(l, p)
	}
	return l
}

// anyGame is a valid state, some frames behind its start, with shots in most cases.
func anyGame(r *rand.Rand) api.State {
	s := state.Start(r.Uint64())
	for _, p := range anyPairs(r, r.Intn(60)) {
		s = step.Step(s, p)
	}
	return s
}

// shooting is a state, valid for an n of up to 8, whose shots go on flying for some frames.
func shooting(n int) api.State {
	s := state.Start(7)
	for i := range int32(n) {
		s.Shots = append(s.Shots, api.Shot{X: 5000 * i, Y: 1000, VX: 10, VY: 20 + i, Owner: uint8(i % 2), Life: 40})
	}
	return s
}

// steps is a state after Step by each pair of l in order.
func steps(s api.State, l []api.Pair) api.State {
	for _, p := range l {
		s = step.Step(s, p)
	}
	return s
}

// TestExampleRows holds the chapter's table of a history, in its order.
func TestExampleRows(t *testing.T) {
	h := fold.New(5, 2)
	same(t, "From", h.From(), 5)
	same(t, "Count", h.Count(), 5)
	same(t, "Add(1 2)", h.Add(api.Pair{1, 2}), api.OK)
	same(t, "Add(3 4)", h.Add(api.Pair{3, 4}), api.OK)
	same(t, "Add(5 6)", h.Add(api.Pair{5, 6}), api.ErrFull)
	p, is := h.At(6)
	same(t, "At(6)", p, api.Pair{3, 4})
	same(t, "At(6) is held", is, true)
	_, is = h.At(7)
	same(t, "At(7) is held", is, false)
	samePairs(t, "Slice(5, 9)", h.Slice(5, 9), []api.Pair{{1, 2}, {3, 4}})

	h.Drop(6)
	same(t, "From behind Drop(6)", h.From(), 6)
	same(t, "Add(5 6) behind Drop(6)", h.Add(api.Pair{5, 6}), api.OK)
	samePairs(t, "Slice(6, 1)", h.Slice(6, 1), []api.Pair{{3, 4}})
	samePairs(t, "Slice(5, 1)", h.Slice(5, 1), nil)
	h.Drop(99)
	same(t, "From behind Drop(99)", h.From(), 8)
	same(t, "Count behind Drop(99)", h.Count(), 8)

	same(t, "New(0, 0)", fold.New(0, 0), nil)
	same(t, "New(0, 257)", fold.New(0, 257), nil)
	same(t, "Add(64 0)", h.Add(api.Pair{64, 0}), api.ErrArg)
}

// TestExampleFold holds the table's row of Fold.
func TestExampleFold(t *testing.T) {
	s := state.Start(7)
	got := fold.Fold(s, []api.Pair{{right, 0}, {right, 0}})
	same(t, "X", got.Players[0].X, s.Players[0].X+64+128)
	same(t, "VX", got.Players[0].VX, 128)
	same(t, "Frame", got.Frame, 2)
	same(t, "player 1", got.Players[1], s.Players[1])
}

// TestFold: P11.1: by no pairs, by one, and by many, in their order; what was handed in stays as it was.
func TestFold(t *testing.T) {
	r := rand.New(rand.NewSource(1))
	for n := range 40 {
		for range 5 {
			s, l := anyGame(r), anyPairs(r, n)
			before, pairs := state.Copy(s), slices.Clone(l)
			sameState(t, fmt.Sprintf("Fold by %d pairs", n), fold.Fold(s, l), steps(s, l))
			sameState(t, "the state handed in", s, before)
			samePairs(t, "the list handed in", l, pairs)
		}
	}
	s, l := state.Start(7), anyPairs(r, 5000)
	sameState(t, "Fold by 5000 pairs", fold.Fold(s, l), steps(s, l))
	sameState(t, "Fold by nil", fold.Fold(s, nil), s)
	sameState(t, "Fold by an empty list", fold.Fold(s, []api.Pair{}), s)
}

// TestFoldOrder: P11.1: two lists of the same pairs in other orders lead elsewhere.
func TestFoldOrder(t *testing.T) {
	first := fold.Fold(state.Start(7), []api.Pair{{right, 0}, {0, 0}, {0, 0}})
	last := fold.Fold(state.Start(7), []api.Pair{{0, 0}, {0, 0}, {right, 0}})
	same(t, "X of who went right in the first frame", first.Players[0].X, 8192+64+56+49)
	same(t, "X of who went right in the last one", last.Players[0].X, 8192+64)
}

// TestFoldNotValid: P11.1: a pair, or a state, that is not valid is as it is for Step: nothing changes by it.
func TestFoldNotValid(t *testing.T) {
	valid, s := []api.Pair{{right, fire}, {right, 0}, {0, 1}}, shooting(3)
	for _, bad := range []api.Pair{{64, 0}, {0, 64}, {255, 255}} {
		for at := range len(valid) + 1 {
			l := slices.Insert(slices.Clone(valid), at, bad)
			sameState(t, fmt.Sprintf("Fold by %v", l), fold.Fold(s, l), steps(s, valid))
		}
		sameState(t, "Fold by a pair that is not valid", fold.Fold(s, []api.Pair{bad}), s)
	}
	hurt := shooting(2)
	hurt.Players[1].Health = 0
	for what, s := range map[string]api.State{"the zero value": {}, "9 shots": shooting(9), "Health 0": hurt} {
		for n := range len(valid) + 1 {
			sameState(t, fmt.Sprintf("Fold of %s by %d pairs", what, n), fold.Fold(s, valid[:n]), s)
		}
	}
}

// TestFoldMemory: P11.1: nothing that is done to a result shows in what was handed in, nor in another result, and nothing that is done to what was handed in shows in a result; spare room behind the shots and the pairs stays as it is.
func TestFoldMemory(t *testing.T) {
	for shots := range 10 {
		for n := range 4 {
			s, l := shooting(shots), slices.Repeat([]api.Pair{{fire, fire}}, 6)
			s.Shots = append(make([]api.Shot, 0, shots+5), s.Shots...)
			room := s.Shots[:cap(s.Shots)]
			before, roomBefore, pairs := state.Copy(s), slices.Clone(room), slices.Clone(l)
			what := fmt.Sprintf("%d shots, %d pairs: ", shots, n)

			got, second := fold.Fold(s, l[:n]), fold.Fold(s, l[:n])
			want := state.Copy(got)
			same(t, what+"the shots and the room behind them", slices.Equal(room, roomBefore), true)
			samePairs(t, what+"the pairs and the room behind them", l, pairs)
			for i := range got.Shots {
				got.Shots[i].X += 7
			}
			got.Players[0].X++
			sameState(t, what+"what was handed in, behind a change of a result", s, before)
			sameState(t, what+"a result, behind a change of another one", second, want)
			clear(room)
			clear(l)
			sameState(t, what+"a result, behind a change of what was handed in", second, want)
		}
	}
}

// TestFoldParted: P11.5: of lists parted anywhere, also at their ends; Frame counts the pairs.
func TestFoldParted(t *testing.T) {
	r := rand.New(rand.NewSource(2))
	for _, n := range []int{0, 1, 2, 3, 10, 100, 300} {
		s, l := anyGame(r), anyPairs(r, n)
		whole := fold.Fold(s, l)
		same(t, "Frame", whole.Frame, s.Frame+uint64(n))
		for at := range n + 1 {
			head := fold.Fold(s, l[:at])
			same(t, "Frame of a part", head.Frame, s.Frame+uint64(at))
			sameState(t, fmt.Sprintf("Fold by %d pairs, and by %d more", at, n-at), fold.Fold(head, l[at:]), whole)
		}
	}
	late := state.Start(1)
	late.Frame = greatest - 1
	same(t, "Frame beyond the greatest number", fold.Fold(late, anyPairs(r, 5)).Frame, 3)
}

// TestNew: P11.2: for each first frame, with each most that may be and with others.
func TestNew(t *testing.T) {
	for _, first := range []uint64{0, 1, 5, 255, 256, 257, 1 << 32, 1 << 63, greatest - 1, greatest} {
		for most := 1; most <= 256; most++ {
			h, m := filled(t, first, most, 0)
			same(t, "From", h.From(), first)
			same(t, "Count", h.Count(), first)
			if most == 1 || most == 256 {
				holdTo(t, fmt.Sprintf("New(%d, %d)", first, most), h, m)
			}
		}
		for _, most := range []int{math.MinInt, math.MinInt32, -257, -256, -1, 0, 257, 258, 512, 1<<16 + 1, 1<<32 + 1, math.MaxInt} {
			same(t, fmt.Sprintf("New(%d, %d)", first, most), fold.New(first, most), nil)
		}
	}
}

// TestTwoHistories: P11.2: what is added to one is not in another.
func TestTwoHistories(t *testing.T) {
	a, of := filled(t, 3, 4, 3)
	b, other := filled(t, 3, 4, 0)
	addTo(t, "another history", b, &other, api.Pair{9, 9})
	a.Drop(4)
	of.drop(4)
	holdTo(t, "one history", a, of)
	holdTo(t, "another history", b, other)
}

// TestNotNew: P11.2: nil, and a history that New did not return, for each method.
func TestNotNew(t *testing.T) {
	var declared fold.History
	for what, h := range map[string]*fold.History{"nil": nil, "a declared one": &declared, "a literal": {}, "new": new(fold.History)} {
		for range 2 {
			same(t, what+": Add", h.Add(api.Pair{1, 2}), api.ErrNil)
			same(t, what+": Add of a pair that is not valid", h.Add(api.Pair{64, 64}), api.ErrNil)
			holdTo(t, what, h, model{})
			for _, below := range []uint64{0, 1, 5, greatest} {
				h.Drop(below)
				holdTo(t, what+" behind Drop", h, model{})
			}
		}
	}
}

// TestAdd: P11.3: for each number of pairs that may be held at most, up to it and beyond.
func TestAdd(t *testing.T) {
	for _, most := range []int{1, 2, 3, 7, 64, 255, 256} {
		for _, first := range []uint64{0, 1, 250, 1 << 40} {
			h, m := filled(t, first, most, most)
			what := fmt.Sprintf("%d of %d pairs from %d on", len(m.l), most, first)
			same(t, what+": Count", h.Count(), first+uint64(most))
			for range 3 {
				same(t, what+": Add", h.Add(api.Pair{63, 63}), api.ErrFull)
			}
			holdTo(t, what, h, m)
		}
	}
}

// TestAddInputs: P11.3: every input of either player, with room left, and where the history is full: an input that is not valid is told of first.
func TestAddInputs(t *testing.T) {
	for i := range 256 {
		for _, p := range []api.Pair{{api.Input(i), 0}, {0, api.Input(i)}, {api.Input(i), 63}, {api.Input(i), api.Input(i)}, {api.Input(i), 64}, {200, api.Input(i)}} {
			for held := range 3 {
				h, m := filled(t, 8, 2, held)
				addTo(t, fmt.Sprintf("%d of 2 pairs", held), h, &m, p)
				holdTo(t, fmt.Sprintf("%d of 2 pairs, behind Add(%v)", held, p), h, m)
			}
		}
	}
}

// TestAddAtTheEnd: P11.3: at count 2^64 - 1, with room left: no pair is added, also behind a Drop.
func TestAddAtTheEnd(t *testing.T) {
	for left := range uint64(4) {
		h, m := filled(t, greatest-left, 9, int(left))
		for _, below := range []uint64{0, greatest - 1, greatest} {
			h.Drop(below)
			m.drop(below)
			same(t, "Count", h.Count(), greatest)
			same(t, "Add", h.Add(api.Pair{1, 1}), api.ErrFull)
			same(t, "Add of a pair that is not valid", h.Add(api.Pair{1, 64}), api.ErrArg)
			holdTo(t, fmt.Sprintf("%d pairs up to the last count", left), h, m)
		}
		same(t, "From", h.From(), greatest)
	}
}

// TestDrop: P11.3: below From, at From, within, at Count and above it, of histories that are empty, full, and neither.
func TestDrop(t *testing.T) {
	for _, first := range []uint64{0, 1, 7, 254, 1 << 33} {
		for held := range 7 {
			belows := []uint64{0, first - 1, first + 100, first + 1<<32, greatest - 1, greatest}
			for i := range uint64(held + 3) {
				belows = append(belows, first+i)
			}
			for _, below := range belows {
				h, m := filled(t, first, 6, held)
				h.Drop(below)
				m.drop(below)
				what := fmt.Sprintf("%d pairs from %d on, behind Drop(%d)", held, first, below)
				holdTo(t, what, h, m)
				h.Drop(below)
				holdTo(t, what+", twice", h, m)
				h.Drop(m.from - min(m.from, 1))
				holdTo(t, what+", and one of what is gone", h, m)
				addTo(t, what, h, &m, api.Pair{33, 44})
				holdTo(t, what+" and Add", h, m)
			}
		}
	}
}

// TestRoundTheRing: P11.3, P11.4 and P11.6: adding again behind each Drop, more than once round the whole ring.
func TestRoundTheRing(t *testing.T) {
	for _, most := range []int{1, 2, 3, 100, 255, 256} {
		for _, gone := range []int{1, most/2 + 1, most} {
			first := uint64(1000)
			h, m := filled(t, first, most, most)
			next := most
			for h.Count() < first+1100 {
				h.Drop(m.from + uint64(gone))
				m.drop(m.from + uint64(gone))
				same(t, "From behind a Drop", h.From(), m.from)
				for range gone {
					addTo(t, "behind a Drop", h, &m, numbered(next))
					next++
				}
				addTo(t, "where it is full again", h, &m, numbered(next))
				samePairs(t, fmt.Sprintf("%d pairs, %d anew", most, gone), h.Slice(h.From(), most), m.l)
			}
			holdTo(t, fmt.Sprintf("%d pairs, %d anew", most, gone), h, m)
		}
	}
}

// TestSlice: P11.4: from each frame, with each number up to more than there are.
func TestSlice(t *testing.T) {
	for _, most := range []int{5, 256} {
		h, m := filled(t, 250, most, 5)
		for f := uint64(248); f < 258; f++ {
			for n := -3; n < 9; n++ {
				samePairs(t, fmt.Sprintf("Slice(%d, %d)", f, n), h.Slice(f, n), m.slice(f, n))
			}
		}
		holdTo(t, "behind Slice", h, m)
	}
	h, _ := filled(t, 0, 256, 256)
	same(t, "pairs of a full history", len(h.Slice(0, math.MaxInt)), 256)
	same(t, "pairs of a full history, with the smallest number", len(h.Slice(0, math.MinInt)), 0)
}

// TestSliceMemory: P11.4: what is done to a slice changes no history and no other slice, and what is done to the history changes no slice, also where its pairs are at both ends of a ring.
func TestSliceMemory(t *testing.T) {
	for _, first := range []uint64{0, 100, 250, 254} {
		h, m := filled(t, first, 6, 6)
		whole, part, again := h.Slice(first, 6), h.Slice(first+1, 2), h.Slice(first, 9)
		kept := slices.Clone(m.l)
		clear(whole[:cap(whole)])
		part = append(part, api.Pair{1, 1})
		clear(part[:cap(part)])
		holdTo(t, "behind a change of slices", h, m)
		samePairs(t, "another slice", again, kept)
		for range 300 {
			h.Drop(h.From() + 1)
			h.Add(api.Pair{50, 51})
		}
		samePairs(t, "a slice, behind Drop and Add", again, kept)
	}
}

// TestLongRuns: P11.6: at each step of long runs of Add and Drop, what was added is returned till it is dropped, and no more than most pairs are held.
func TestLongRuns(t *testing.T) {
	r := rand.New(rand.NewSource(3))
	for _, most := range []int{1, 2, 5, 31, 255, 256} {
		for _, first := range []uint64{0, 255, 1<<63 - 40, greatest - 200} {
			h, m := filled(t, first, most, 0)
			for range 400 {
				switch r.Intn(8) {
				case 0:
					below := m.from + uint64(r.Intn(len(m.l)+3)) - 1
					h.Drop(below)
					m.drop(below)
				case 1:
					addTo(t, "a long run", h, &m, api.Pair{api.Input(r.Intn(256)), api.Input(r.Intn(256))})
				default:
					addTo(t, "a long run", h, &m, anyPairs(r, 1)[0])
				}
				if held := h.Count() - h.From(); held > uint64(most) {
					t.Fatalf("%d pairs are held, and %d are the most", held, most)
				}
				if h.From() != m.from || h.Count() != m.count() {
					t.Fatalf("a long run: From %d, Count %d, not %d, %d", h.From(), h.Count(), m.from, m.count())
				}
				samePairs(t, "all pairs", h.Slice(h.From(), 256), m.l)
				f := m.from + uint64(r.Intn(len(m.l)+1))
				got, is := h.At(f)
				want, wanted := m.at(f)
				same(t, "At", got, want)
				same(t, "At is held", is, wanted)
			}
			holdTo(t, "behind a long run", h, m)
		}
	}
}
