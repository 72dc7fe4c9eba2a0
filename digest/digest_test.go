package digest_test

import (
	"encoding/binary"
	"fmt"
	"hash/fnv"
	"math"
	"math/big"
	"math/rand"
	"slices"
	"strings"
	"testing"

	"hindcast/api"
	"hindcast/digest"
	"hindcast/state"
)

const (
	basis    uint64 = 14695981039346656037
	factor   uint64 = 1099511628211
	greatest uint64 = math.MaxUint64
)

// starts are numbers to go on from: both limits, each bit alone, and any.
func starts() []uint64 {
	l := []uint64{0, 1, 255, 256, factor, basis, basis - 1, basis + 1, math.MaxInt64, greatest - 255, greatest - 1, greatest}
	for i := range 64 {
		l = append(l, 1<<i, ^uint64(1<<i))
	}
	r := rand.New(rand.NewSource(1))
	for range 50 {
		l = append(l, r.Uint64())
	}
	return l
}

// texts are the empty string, every byte alone, short ones of one byte repeated, and others of any bytes, the same ones in each run.
func texts() []string {
	l := []string{"", "ab", "ba", "abc", "foobar", "\x00\xff", "\xff\x00", "a\x00", "\x00a"}
	for b := range 256 {
		l = append(l, string([]byte{byte(b)}))
	}
	for _, n := range []int{2, 3, 4, 7, 8, 9, 64} {
		l = append(l, strings.Repeat("\x00", n), strings.Repeat("\xff", n))
	}
	r := rand.New(rand.NewSource(2))
	for n := range 40 {
		l = append(l, anyBytes(r, n))
	}
	return l
}

// longTexts are longer than a byte or two bytes can count.
func longTexts() []string {
	r := rand.New(rand.NewSource(3))
	return []string{anyBytes(r, 255), anyBytes(r, 256), anyBytes(r, 257), anyBytes(r, 4096), anyBytes(r, 65535), anyBytes(r, 65536), anyBytes(r, 65537), strings.Repeat("\x00", 70000)}
}

func anyBytes(r *rand.Rand, n int) string {
	b := make([]byte, n)
	r.Read(b)
	return string(b)
}

// anyPairs is of inputs that are valid and of such as are not.
func anyPairs(r *rand.Rand, n int) []api.Pair {
	var l []api.Pair
	for range n {
		l = append(l, anyPair(r))
	}
	return l
}

func anyPair(r *rand.Rand) api.Pair {
	return api.Pair{api.Input(r.Intn(256)), api.Input(r.Intn(256))}
}

// lists are the empty one, short ones and a long one.
func lists() [][]api.Pair {
	r := rand.New(rand.NewSource(4))
	l := [][]api.Pair{nil, {}, {{0, 0}}, {{0, 1}}, {{1, 0}}, {{255, 255}}, {{97, 98}}, {{0, 0}, {0, 0}}, {{1, 2}, {3, 4}}, {{3, 4}, {1, 2}}}
	for n := range 20 {
		l = append(l, anyPairs(r, n))
	}
	return append(l, anyPairs(r, 256), anyPairs(r, 257), anyPairs(r, 5000))
}

// inOrder is the pairs' inputs as bytes, player 0's first.
func inOrder(l []api.Pair) string {
	var b strings.Builder
	for _, p := range l {
		b.Write([]byte{byte(p[0]), byte(p[1])})
	}
	return b.String()
}

// joined is the chapter's steps word by word, in numbers without a limit.
func joined(d uint64, s string) uint64 {
	n := new(big.Int).SetUint64(d)
	by := new(big.Int).SetUint64(factor)
	modulus := new(big.Int).Lsh(big.NewInt(1), 64)
	for _, b := range []byte(s) {
		n.Xor(n, big.NewInt(int64(b)))
		n.Mul(n, by)
		n.Mod(n, modulus)
	}
	return n.Uint64()
}

// ofLibrary is the library's hash value of the same name, which begins with the basis.
func ofLibrary(s string) uint64 {
	h := fnv.New64a()
	h.Write([]byte(s))
	return h.Sum64()
}

// shooting is a valid state with n shots.
func shooting(n int) api.State {
	s := state.Start(7)
	s.Frame, s.Score = 300, [2]uint16{3, 5}
	for i := range int32(n) {
		s.Shots = append(s.Shots, api.Shot{X: 1000 * i, Y: 2000, VX: i, VY: -i, Owner: uint8(i % 2), Life: uint8(40 - i)})
	}
	return s
}

// anyState is a valid one.
func anyState(r *rand.Rand) api.State {
	s := shooting(r.Intn(api.MaxShots + 1))
	s.Frame, s.Seed = r.Uint64(), r.Uint64()
	s.Score = [2]uint16{uint16(r.Intn(1 << 16)), uint16(r.Intn(1 << 16))}
	for i := range s.Players {
		s.Players[i] = api.Player{
			X: r.Int31n(61441), Y: r.Int31n(28673), VX: r.Int31n(2049) - 1024, VY: r.Int31n(2049) - 1024,
			Health: uint8(1 + r.Intn(100)), Cool: uint8(r.Intn(31)), Face: uint8(r.Intn(4)),
		}
	}
	return s
}

// wrong are states that are not valid, each by one part.
func wrong() map[string]api.State {
	changed := func(shots int, change func(s *api.State)) api.State {
		s := shooting(shots)
		change(&s)
		return s
	}
	return map[string]api.State{
		"the zero value":       {},
		"with Frame alone":     {Frame: 1},
		"with Health 0":        changed(0, func(s *api.State) { s.Players[0].Health = 0 }),
		"with Health 101":      changed(1, func(s *api.State) { s.Players[1].Health = 101 }),
		"with X -1":            changed(0, func(s *api.State) { s.Players[0].X = -1 }),
		"with Y 28673":         changed(0, func(s *api.State) { s.Players[1].Y = 28673 }),
		"with VX 1025":         changed(2, func(s *api.State) { s.Players[0].VX = 1025 }),
		"with Face 4":          changed(8, func(s *api.State) { s.Players[1].Face = 4 }),
		"with a shot's Life 0": changed(8, func(s *api.State) { s.Shots[7].Life = 0 }),
		"with a shot's Owner":  changed(1, func(s *api.State) { s.Shots[0].Owner = 2 }),
		"with nine shots":      shooting(9),
	}
}

func same[T comparable](t *testing.T, what string, got, want T) {
	t.Helper()
	if got != want {
		t.Errorf("%s: %v, not %v", what, got, want)
	}
}

// TestExamples holds the chapter's table.
func TestExamples(t *testing.T) {
	same(t, "Join of the basis and the empty string", digest.Join(14695981039346656037, ""), 14695981039346656037)
	same(t, "Join of the basis and a", digest.Join(14695981039346656037, "a"), 12638187200555641996)
	same(t, "Of a state that is not valid", digest.Of(api.State{}), 14695981039346656037)
	same(t, "Chain of the empty list", digest.Chain(nil), 14695981039346656037)
	same(t, "Mix(0, [0, 0])", digest.Mix(0, api.Pair{0, 0}), 0)
	same(t, "Mix(0, [0, 1])", digest.Mix(0, api.Pair{0, 1}), 1099511628211)
	same(t, "Chain of [97, 98]", digest.Chain([]api.Pair{{97, 98}}), digest.Join(14695981039346656037, "ab"))
}

// TestJoin: P10.1: from any number on, by the chapter's words, and from the basis by the library's hash value, too.
func TestJoin(t *testing.T) {
	for _, s := range texts() {
		for _, d := range starts() {
			same(t, fmt.Sprintf("Join(%d, %q)", d, s), digest.Join(d, s), joined(d, s))
		}
		same(t, fmt.Sprintf("Join of the basis and %q", s), digest.Join(basis, s), ofLibrary(s))
	}
	for _, d := range starts() {
		same(t, fmt.Sprintf("Join(%d, the empty string)", d), digest.Join(d, ""), d)
	}
}

// TestJoinOfLongStrings: P10.1.
func TestJoinOfLongStrings(t *testing.T) {
	for _, s := range longTexts() {
		for _, d := range []uint64{0, 1, basis, greatest} {
			same(t, fmt.Sprintf("Join of %d and %d bytes", d, len(s)), digest.Join(d, s), joined(d, s))
		}
		same(t, fmt.Sprintf("Join of the basis and %d bytes", len(s)), digest.Join(basis, s), ofLibrary(s))
	}
}

// TestStep: P10.1, with numbers that were worked out by hand: the byte comes in ahead of the multiplication, and what is above 2^64 is gone.
func TestStep(t *testing.T) {
	same(t, "of 0 by 0", digest.Join(0, "\x00"), 0)
	same(t, "of 1 by 0", digest.Join(1, "\x00"), factor)
	same(t, "of 0 by 1", digest.Join(0, "\x01"), factor)
	same(t, "of 1 by 1", digest.Join(1, "\x01"), 0)
	same(t, "of 0 by 255", digest.Join(0, "\xff"), 255*factor)
	same(t, "of 3 by 1", digest.Join(3, "\x01"), 2*factor)
	same(t, "of the greatest number by 0", digest.Join(greatest, "\x00"), greatest-factor+1)
	same(t, "of the greatest number by 255", digest.Join(greatest, "\xff"), greatest-256*factor+1)
	same(t, "of 2^63 by 0", digest.Join(1<<63, "\x00"), 1<<63)
	same(t, "of 2^24 by 0", digest.Join(1<<24, "\x00"), 435<<24)
	same(t, "of 0 by 1 and 0", digest.Join(0, "\x01\x00"), 956575116354345)
	same(t, "of 0 by 0 and 1", digest.Join(0, "\x00\x01"), factor)
}

// TestOf: P10.1: states that are valid, with every number of shots.
func TestOf(t *testing.T) {
	held := func(what string, s api.State) {
		t.Helper()
		if state.Put(s) == "" {
			t.Fatalf("%s is not valid", what)
		}
		same(t, what, digest.Of(s), joined(basis, state.Put(s)))
	}
	for _, seed := range []uint64{0, 1, 7, basis, greatest} {
		held(fmt.Sprintf("Of Start(%d)", seed), state.Start(seed))
	}
	for n := range api.MaxShots + 1 {
		held(fmt.Sprintf("Of a state with %d shots", n), shooting(n))
	}
	r := rand.New(rand.NewSource(5))
	for range 2000 {
		s := anyState(r)
		held(fmt.Sprintf("Of %v", s), s)
	}
}

// TestOfPlainBytes: P10.1, with the first state's bytes put together here.
func TestOfPlainBytes(t *testing.T) {
	player := func(x, y uint32, face byte) []byte {
		b := binary.LittleEndian.AppendUint32(nil, x)
		b = binary.LittleEndian.AppendUint32(b, y)
		return append(b, 0, 0, 0, 0, 0, 0, 0, 0, 100, 0, face)
	}
	first := slices.Concat(make([]byte, 8), binary.LittleEndian.AppendUint64(nil, 258), player(8192, 14336, 0), player(53248, 14336, 1), make([]byte, 5))
	same(t, "Of Start(258)", digest.Of(state.Start(258)), ofLibrary(string(first)))
}

// TestOfEachPart: P10.1: no part of a state counts for nothing.
func TestOfEachPart(t *testing.T) {
	s := shooting(2)
	for what, change := range map[string]func(s *api.State){
		"Frame":                   func(s *api.State) { s.Frame++ },
		"Seed":                    func(s *api.State) { s.Seed++ },
		"player 0's X":            func(s *api.State) { s.Players[0].X++ },
		"player 1's Y":            func(s *api.State) { s.Players[1].Y-- },
		"player 0's VX":           func(s *api.State) { s.Players[0].VX-- },
		"player 1's VY":           func(s *api.State) { s.Players[1].VY++ },
		"player 0's Health":       func(s *api.State) { s.Players[0].Health-- },
		"player 1's Cool":         func(s *api.State) { s.Players[1].Cool++ },
		"player 0's Face":         func(s *api.State) { s.Players[0].Face++ },
		"shot 0's X":              func(s *api.State) { s.Shots[0].X++ },
		"shot 1's Y":              func(s *api.State) { s.Shots[1].Y++ },
		"shot 0's VX":             func(s *api.State) { s.Shots[0].VX-- },
		"shot 1's VY":             func(s *api.State) { s.Shots[1].VY-- },
		"shot 1's Owner":          func(s *api.State) { s.Shots[1].Owner-- },
		"shot 0's Life":           func(s *api.State) { s.Shots[0].Life-- },
		"the number of shots":     func(s *api.State) { s.Shots = s.Shots[:1] },
		"the order of the shots":  func(s *api.State) { slices.Reverse(s.Shots) },
		"player 1's score":        func(s *api.State) { s.Score[1]++ },
		"the order of the scores": func(s *api.State) { s.Score[0], s.Score[1] = s.Score[1], s.Score[0] },
	} {
		other := state.Copy(s)
		change(&other)
		if digest.Of(other) == basis || digest.Of(other) == digest.Of(s) {
			t.Errorf("Of is blind to %s", what)
		}
	}
}

// TestOfWrongStates: P10.1: what is not valid has no bytes to go on by.
func TestOfWrongStates(t *testing.T) {
	for what, s := range wrong() {
		same(t, "Of a state "+what, digest.Of(s), basis)
	}
}

// TestOfEmptyShots: P10.1: an empty list of shots is as good as none.
func TestOfEmptyShots(t *testing.T) {
	s := state.Start(9)
	want := digest.Of(s)
	s.Shots = []api.Shot{}
	same(t, "Of a state with an empty list", digest.Of(s), want)
	s.Shots = make([]api.Shot, 0, 8)
	same(t, "Of a state with room for shots", digest.Of(s), want)
}

// TestMix: P10.2: every pair, be its inputs valid or not, from some numbers on; and some pairs from all of them on.
func TestMix(t *testing.T) {
	mixTo := func(d uint64, p api.Pair) {
		t.Helper()
		same(t, fmt.Sprintf("Mix(%d, %v)", d, p), digest.Mix(d, p), joined(d, inOrder([]api.Pair{p})))
	}
	for n := range 1 << 16 {
		mixTo(basis, api.Pair{api.Input(n), api.Input(n >> 8)})
	}
	for _, d := range starts() {
		for _, p := range []api.Pair{{0, 0}, {0, 1}, {1, 0}, {63, 63}, {64, 0}, {0, 64}, {3, 12}, {12, 3}, {200, 0}, {0, 200}, {255, 0}, {0, 255}, {255, 255}} {
			mixTo(d, p)
		}
	}
}

// TestMixOrder: P10.2: player 0's input comes first.
func TestMixOrder(t *testing.T) {
	for _, d := range starts() {
		same(t, fmt.Sprintf("Mix(%d, [97, 98])", d), digest.Mix(d, api.Pair{97, 98}), digest.Join(d, "ab"))
		same(t, fmt.Sprintf("Mix(%d, [98, 97])", d), digest.Mix(d, api.Pair{98, 97}), digest.Join(d, "ba"))
	}
	same(t, "Mix(0, [1, 0])", digest.Mix(0, api.Pair{1, 0}), 956575116354345)
}

// TestChain: P10.2.
func TestChain(t *testing.T) {
	for _, l := range lists() {
		what := fmt.Sprintf("Chain of %d pairs", len(l))
		same(t, what, digest.Chain(l), joined(basis, inOrder(l)))
		same(t, what, digest.Chain(l), ofLibrary(inOrder(l)))
	}
	same(t, "Chain of a list that is empty, not nil", digest.Chain([]api.Pair{}), basis)
	for n := range 1 << 16 {
		p := api.Pair{api.Input(n), api.Input(n >> 8)}
		same(t, fmt.Sprintf("Chain of %v", p), digest.Chain([]api.Pair{p}), digest.Mix(basis, p))
	}
}

// TestPartsOfTexts: P10.3: cut in two anywhere, at both ends too, from any number on.
func TestPartsOfTexts(t *testing.T) {
	r := rand.New(rand.NewSource(6))
	for _, d := range starts() {
		s := anyBytes(r, 30)
		whole := digest.Join(d, s)
		for cut := range len(s) + 1 {
			same(t, fmt.Sprintf("Join(%d, %q), cut at %d", d, s, cut), digest.Join(digest.Join(d, s[:cut]), s[cut:]), whole)
		}
	}
	for _, s := range longTexts() {
		for _, cut := range []int{0, 1, len(s) / 2, len(s) - 1, len(s)} {
			same(t, fmt.Sprintf("Join of %d bytes, cut at %d", len(s), cut), digest.Join(digest.Join(basis, s[:cut]), s[cut:]), digest.Join(basis, s))
		}
	}
}

// TestPartsOfLists: P10.3: cut in two anywhere, at both ends too.
func TestPartsOfLists(t *testing.T) {
	for _, l := range lists() {
		if len(l) > 300 {
			continue
		}
		whole := digest.Chain(l)
		for cut := range len(l) + 1 {
			what := fmt.Sprintf("Chain of %d pairs, cut at %d", len(l), cut)
			d := digest.Chain(l[:cut])
			same(t, what+", by Join", digest.Join(d, inOrder(l[cut:])), whole)
			for _, p := range l[cut:] {
				d = digest.Mix(d, p)
			}
			same(t, what+", by Mix", d, whole)
		}
	}
}

// allDiffer holds that no number is told twice.
func allDiffer[K comparable](t *testing.T, what string, told map[uint64]K, by K, d uint64) {
	t.Helper()
	if other, ok := told[d]; ok && other != by {
		t.Fatalf("%s: %v and %v have the same number %d", what, other, by, d)
	}
	told[d] = by
}

// TestDifferentNumbers: P10.4: no two numbers become one by a string.
func TestDifferentNumbers(t *testing.T) {
	r := rand.New(rand.NewSource(7))
	l := starts()
	for range 3000 {
		l = append(l, r.Uint64())
	}
	for n := range uint64(3000) {
		l = append(l, n, greatest-n, n<<32, n<<52)
	}
	for _, s := range append(texts(), longTexts()[:3]...) {
		if len(s) == 1 && s[0]%51 != 0 {
			continue
		}
		told := map[uint64]uint64{}
		for _, d := range l {
			allDiffer(t, fmt.Sprintf("Join with %q", s), told, d, digest.Join(d, s))
		}
	}
}

// TestOneByte: P10.4: every other byte at every place of strings of many lengths, from many numbers on.
func TestOneByte(t *testing.T) {
	r := rand.New(rand.NewSource(8))
	for _, d := range starts() {
		s := []byte(anyBytes(r, 1+r.Intn(9)))
		for at := range s {
			oneByte(t, d, s, at)
		}
	}
	for _, long := range longTexts() {
		s := []byte(long)[:min(len(long), 5000)]
		for _, at := range []int{0, 1, len(s) / 2, len(s) - 2, len(s) - 1} {
			oneByte(t, basis, s, at)
		}
	}
}

func oneByte(t *testing.T, d uint64, s []byte, at int) {
	t.Helper()
	s = slices.Clone(s)
	told := map[uint64]int{}
	for b := range 256 {
		s[at] = byte(b)
		allDiffer(t, fmt.Sprintf("Join from %d by %d bytes, differing at %d", d, len(s), at), told, b, digest.Join(d, string(s)))
	}
}

// TestOnePair: P10.4: every pair at the first, a middle and the last place of a list: they differ in player 0's input alone, in player 1's, and in both.
func TestOnePair(t *testing.T) {
	r := rand.New(rand.NewSource(9))
	for _, n := range []int{1, 2, 3, 12} {
		l := anyPairs(r, n)
		for _, at := range []int{0, n / 2, n - 1} {
			onePair(t, l, at)
		}
	}
}

func onePair(t *testing.T, l []api.Pair, at int) {
	t.Helper()
	l = slices.Clone(l)
	told := map[uint64]api.Pair{}
	for n := range 1 << 16 {
		l[at] = api.Pair{api.Input(n), api.Input(n >> 8)}
		allDiffer(t, fmt.Sprintf("Chain of %d pairs, differing at %d", len(l), at), told, l[at], digest.Chain(l))
	}
}

// TestOnePairOfAnyList: P10.4: one other pair at each place of lists of any length.
func TestOnePairOfAnyList(t *testing.T) {
	r := rand.New(rand.NewSource(10))
	for n := range 200 {
		l := anyPairs(r, n)
		want := digest.Chain(l)
		for at, was := range l {
			for _, to := range []api.Pair{{was[0] + 1, was[1]}, {was[0], was[1] + 1}, {was[0] ^ 128, was[1] ^ 128}, {^was[0], ^was[1]}} {
				l[at] = to
				if digest.Chain(l) == want {
					t.Errorf("Chain of %d pairs is blind to %v in place of %v at %d", n, to, was, at)
				}
			}
			l[at] = was
		}
	}
}

// TestChangesNothing: P10.5: a list and a state are what they were, and so is the room behind them.
func TestChangesNothing(t *testing.T) {
	room := anyPairs(rand.New(rand.NewSource(11)), 40)
	before := slices.Clone(room)
	for n := range len(room) + 1 {
		digest.Chain(room[:n])
		same(t, fmt.Sprintf("pairs kept by Chain of %d", n), slices.Equal(room, before), true)
	}
	for n := range api.MaxShots + 3 {
		s, was := shooting(api.MaxShots+2), shooting(api.MaxShots+2)
		behind := s.Shots
		s.Shots = s.Shots[:n]
		digest.Of(s)
		same(t, fmt.Sprintf("shots kept by Of of %d", n), len(s.Shots) == n && slices.Equal(behind, was.Shots), true)
		same(t, fmt.Sprintf("parts kept by Of, with %d shots", n), s.Frame == was.Frame && s.Seed == was.Seed && s.Players == was.Players && s.Score == was.Score, true)
	}
}

// TestKeepsNothing: P10.5: what is done to a list or a state after a call changes no answer, and neither do other calls.
func TestKeepsNothing(t *testing.T) {
	r := rand.New(rand.NewSource(12))
	l := anyPairs(r, 20)
	copied := slices.Clone(l)
	chain := digest.Chain(l)
	clear(l)
	same(t, "Chain of a list that was cleared afterwards", digest.Chain(copied), chain)
	same(t, "Chain of the cleared list", digest.Chain(l), ofLibrary(strings.Repeat("\x00", 40)))

	s := shooting(5)
	of := digest.Of(s)
	clear(s.Shots)
	same(t, "Of a state whose shots were cleared", digest.Of(s), basis)
	same(t, "Of the same state, made anew", digest.Of(shooting(5)), of)

	for range 100 {
		digest.Mix(r.Uint64(), anyPair(r))
		digest.Join(r.Uint64(), anyBytes(r, 9))
		same(t, "Chain after other calls", digest.Chain(copied), chain)
		same(t, "Chain of the empty list after other calls", digest.Chain(nil), basis)
		same(t, "Of after other calls", digest.Of(shooting(5)), of)
	}
}
