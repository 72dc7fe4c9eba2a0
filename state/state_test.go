package state_test

import (
	"encoding/binary"
	"fmt"
	"math"
	"math/rand"
	"slices"
	"strings"
	"testing"

	"hindcast/api"
	"hindcast/codec"
	"hindcast/state"
)

const (
	most      = 8  // shots of a state
	head      = 16 // bytes ahead of player 0
	countAt   = 54 // where the number of shots is
	firstShot = 55 // where the first shot is, if that number has one byte
	shotBytes = 18 // of a shot
	tailBytes = 4  // behind the shots
)

// part is a number of a state: the chapter's row for it, at one of its places.
type part struct {
	name      string
	low, high int64
	at        func(s *api.State) any // a pointer to it
}

// set makes n the part's number, and is false if no such number has room there.
func (p part) set(s *api.State, n int64) bool {
	switch to := p.at(s).(type) {
	case *int32:
		*to = int32(n)
		return int64(*to) == n
	case *uint8:
		*to = uint8(n)
		return int64(*to) == n
	case *uint16:
		*to = uint16(n)
		return int64(*to) == n
	case *uint64:
		*to = uint64(n)
		return n >= 0
	}
	panic("no such width")
}

// flip changes one bit of the part, and is false if it has no such bit.
func (p part) flip(s *api.State, bit int) bool {
	switch at := p.at(s).(type) {
	case *int32:
		*at ^= 1 << bit
		return bit < 32
	case *uint8:
		*at ^= 1 << bit
		return bit < 8
	case *uint16:
		*at ^= 1 << bit
		return bit < 16
	case *uint64:
		*at ^= 1 << bit
		return bit < 64
	}
	panic("no such width")
}

// playerParts are the chapter's rows for player i.
func playerParts(i int) []part {
	at := func(name string, low, high int64, of func(p *api.Player) any) part {
		return part{fmt.Sprintf("player %d's %s", i, name), low, high, func(s *api.State) any { return of(&s.Players[i]) }}
	}
	return []part{
		at("X", 0, 61440, func(p *api.Player) any { return &p.X }),
		at("Y", 0, 28672, func(p *api.Player) any { return &p.Y }),
		at("VX", -1024, 1024, func(p *api.Player) any { return &p.VX }),
		at("VY", -1024, 1024, func(p *api.Player) any { return &p.VY }),
		at("Health", 1, 100, func(p *api.Player) any { return &p.Health }),
		at("Cool", 0, 30, func(p *api.Player) any { return &p.Cool }),
		at("Face", 0, 3, func(p *api.Player) any { return &p.Face }),
	}
}

// shotParts are the chapter's rows for shot i.
func shotParts(i int) []part {
	at := func(name string, low, high int64, of func(s *api.Shot) any) part {
		return part{fmt.Sprintf("shot %d's %s", i, name), low, high, func(s *api.State) any { return of(&s.Shots[i]) }}
	}
	return []part{
		at("X", 0, 65024, func(s *api.Shot) any { return &s.X }),
		at("Y", 0, 32256, func(s *api.Shot) any { return &s.Y }),
		at("VX", -2048, 2048, func(s *api.Shot) any { return &s.VX }),
		at("VY", -2048, 2048, func(s *api.Shot) any { return &s.VY }),
		at("Owner", 0, 1, func(s *api.Shot) any { return &s.Owner }),
		at("Life", 1, 40, func(s *api.Shot) any { return &s.Life }),
	}
}

// bounded are all parts that have bounds, of a state with n shots.
func bounded(n int) []part {
	l := slices.Concat(playerParts(0), playerParts(1))
	for i := range n {
		l = append(l, shotParts(i)...)
	}
	return l
}

// free are the parts that may be any number; those of 64 bits are asked for their greatest number elsewhere.
func free() []part {
	return []part{
		{"Frame", 0, math.MaxInt64, func(s *api.State) any { return &s.Frame }},
		{"Seed", 0, math.MaxInt64, func(s *api.State) any { return &s.Seed }},
		{"player 0's score", 0, math.MaxUint16, func(s *api.State) any { return &s.Score[0] }},
		{"player 1's score", 0, math.MaxUint16, func(s *api.State) any { return &s.Score[1] }},
	}
}

func all(n int) []part { return append(free(), bounded(n)...) }

// encoding is worked out by the library's means, which writes the parts of a value in the order of api's fields; it encodes states that are not valid, too.
func encoding(s api.State) string {
	b := binary.LittleEndian.AppendUint64(nil, s.Frame)
	b = binary.LittleEndian.AppendUint64(b, s.Seed)
	b = fixed(b, s.Players)
	b = binary.AppendUvarint(b, uint64(len(s.Shots)))
	b = fixed(b, s.Shots)
	return string(fixed(b, s.Score))
}

func fixed(b []byte, v any) []byte {
	b, e := binary.Append(b, binary.LittleEndian, v)
	if e != nil {
		panic(e)
	}
	return b
}

// valid is the chapter's definition, word by word.
func valid(s api.State) bool {
	if len(s.Shots) > most {
		return false
	}
	for _, p := range bounded(len(s.Shots)) {
		if n := number(p, s); n < p.low || n > p.high {
			return false
		}
	}
	return true
}

func number(p part, s api.State) int64 {
	switch at := p.at(&s).(type) {
	case *int32:
		return int64(*at)
	case *uint8:
		return int64(*at)
	}
	panic("no such width")
}

// decoded is P8.3 word by word.
func decoded(text string) (api.State, api.Errno) {
	if len(text) < countAt {
		return api.State{}, api.ErrTorn
	}
	r := codec.New(text[countAt:])
	n := r.Var()
	if r.Err() != api.OK {
		return api.State{}, r.Err()
	}
	if n > most {
		return api.State{}, api.ErrForm
	}
	rest := r.Rest()
	whole := int(n)*shotBytes + tailBytes
	if len(rest) < whole {
		return api.State{}, api.ErrTorn
	}
	s := api.State{Shots: make([]api.Shot, n)}
	s.Frame = binary.LittleEndian.Uint64([]byte(text[:8]))
	s.Seed = binary.LittleEndian.Uint64([]byte(text[8:head]))
	binary.Decode([]byte(text[head:countAt]), binary.LittleEndian, &s.Players)
	binary.Decode([]byte(rest), binary.LittleEndian, s.Shots)
	binary.Decode([]byte(rest[whole-tailBytes:]), binary.LittleEndian, &s.Score)
	if len(rest) > whole || !valid(s) {
		return api.State{}, api.ErrForm
	}
	return s, api.OK
}

// equal is P8.4's: all parts.
func equal(a, b api.State) bool {
	return a.Frame == b.Frame && a.Seed == b.Seed && a.Players == b.Players && a.Score == b.Score && slices.Equal(a.Shots, b.Shots)
}

// clone is a copy by the library's means.
func clone(s api.State) api.State {
	s.Shots = slices.Clone(s.Shots)
	return s
}

// plain is a state within all bounds, not at any of them, whose parts are all different numbers.
func plain(shots int) api.State {
	s := api.State{Frame: 0x0807060504030201, Seed: 0xf8f7f6f5f4f3f2f1, Score: [2]uint16{0x0a09, 0xfaf9}}
	s.Players[0] = api.Player{X: 1001, Y: 1002, VX: -1003, VY: 1004, Health: 91, Cool: 11, Face: 1}
	s.Players[1] = api.Player{X: 2001, Y: 2002, VX: 905, VY: -906, Health: 92, Cool: 12, Face: 2}
	for i := range int32(shots) {
		s.Shots = append(s.Shots, api.Shot{X: 3001 + 100*i, Y: 3002 + 100*i, VX: 1503 + 10*i, VY: -1504 - 10*i, Owner: uint8(i % 2), Life: uint8(13 + i)})
	}
	return s
}

// anyState is valid: each part is at one of its bounds, or anywhere between.
func anyState(r *rand.Rand) api.State {
	s := plain(r.Intn(most + 1))
	for _, p := range all(len(s.Shots)) {
		switch r.Intn(4) {
		case 0:
			p.set(&s, p.low)
		case 1:
			p.set(&s, p.high)
		default:
			p.set(&s, p.low+r.Int63n(p.high-p.low))
		}
	}
	if r.Intn(4) == 0 {
		s.Frame, s.Seed = math.MaxUint64-uint64(r.Intn(2)), math.MaxUint64-uint64(r.Intn(2))
	}
	return s
}

// states are valid: of every number of shots, at each part's bounds, and any, the same ones in each run.
func states() []api.State {
	var l []api.State
	for n := range most + 1 {
		s := plain(n)
		l = append(l, s)
		for _, p := range all(n) {
			for _, n := range []int64{p.low, p.high} {
				edge := clone(s)
				p.set(&edge, n)
				l = append(l, edge)
			}
		}
	}
	for _, n := range []uint64{0, 1, 255, 256, 1<<32 - 1, 1 << 32, 1 << 63, math.MaxUint64 - 1, math.MaxUint64} {
		first, last := plain(1), plain(1)
		first.Frame = n
		last.Frame, last.Seed = math.MaxUint64, n
		l = append(l, state.Start(n), first, last)
	}
	r := rand.New(rand.NewSource(1))
	for range 500 {
		l = append(l, anyState(r))
	}
	return l
}

// faulty is a state that is not valid, and what is wrong with it.
type faulty struct {
	what string
	s    api.State
}

// spoilt are states with one number beyond its bounds, by as little and as much as there is room for, in each part of each state of 0 to 8 shots.
func spoilt() []faulty {
	var l []faulty
	for n := range most + 1 {
		for _, p := range bounded(n) {
			for _, bad := range []int64{p.low - 1, p.high + 1, math.MinInt32, math.MaxInt32} {
				if s := plain(n); p.set(&s, bad) {
					l = append(l, faulty{fmt.Sprintf("%d shots, %s %d", n, p.name, bad), s})
				}
			}
		}
	}
	return l
}

func same[T comparable](t *testing.T, what string, got, want T) {
	t.Helper()
	if got != want {
		t.Errorf("%s: %v, not %v", what, got, want)
	}
}

func sameText(t *testing.T, what, got, want string) {
	t.Helper()
	if got != want {
		t.Errorf("%s: %d bytes % x, not %d bytes % x", what, len(got), got, len(want), want)
	}
}

// sameState holds that all parts are equal, without asking Same.
func sameState(t *testing.T, what string, got, want api.State) {
	t.Helper()
	if !equal(got, want) {
		t.Errorf("%s: %v, not %v", what, got, want)
	}
}

func takeTo(t *testing.T, what, text string, want api.State, e api.Errno) {
	t.Helper()
	s, got := state.Take(text)
	same(t, "the error of Take of "+what, got, e)
	sameState(t, "Take of "+what, s, want)
}

// takeFails holds that nothing but the error is answered.
func takeFails(t *testing.T, what, text string, e api.Errno) {
	t.Helper()
	takeTo(t, what, text, api.State{}, e)
}

// notValid holds what P8.1, P8.2 and P8.3 say of a state that is not.
func notValid(t *testing.T, what string, s api.State) {
	t.Helper()
	same(t, "Check of "+what, state.Check(s), api.ErrForm)
	sameText(t, "Put of "+what, state.Put(s), "")
	takeFails(t, what, encoding(s), api.ErrForm)
}

// TestExamples holds the chapter's table.
func TestExamples(t *testing.T) {
	s := state.Start(1)
	text := state.Put(s)
	same(t, "the bytes of Start(1)", len(text), 59)
	same(t, "Check of Start(1)", state.Check(s), api.OK)
	for what, spoil := range map[string]func(s *api.State){
		"Health 0":          func(s *api.State) { s.Players[0].Health = 0 },
		"VX 1025":           func(s *api.State) { s.Players[0].VX = 1025 },
		"9 shots":           func(s *api.State) { s.Shots = plain(9).Shots },
		"a shot of no Life": func(s *api.State) { s.Shots = []api.Shot{{Life: 0}} },
	} {
		bad := state.Start(1)
		spoil(&bad)
		same(t, "Check with "+what, state.Check(bad), api.ErrForm)
	}
	takeFails(t, "all but the last byte", text[:58], api.ErrTorn)
	takeFails(t, "a further byte", text+"\x00", api.ErrForm)
	takeFails(t, "the 17th byte ff and the 20th ff", text[:16]+"\xff"+text[17:19]+"\xff"+text[20:], api.ErrForm)
}

// TestStart: P8.1: the first state, part by part, of several seeds.
func TestStart(t *testing.T) {
	for _, seed := range []uint64{0, 1, 7, 1 << 31, 1 << 32, 1 << 63, math.MaxUint64 - 1, math.MaxUint64} {
		s := state.Start(seed)
		what := fmt.Sprintf("Start(%d)", seed)
		same(t, what+": Frame", s.Frame, 0)
		same(t, what+": Seed", s.Seed, seed)
		same(t, what+": player 0", s.Players[0], api.Player{X: 8192, Y: 14336, VX: 0, VY: 0, Health: 100, Cool: 0, Face: 0})
		same(t, what+": player 1", s.Players[1], api.Player{X: 53248, Y: 14336, VX: 0, VY: 0, Health: 100, Cool: 0, Face: 1})
		same(t, what+": shots", len(s.Shots), 0)
		same(t, what+": scores", s.Score, [2]uint16{0, 0})
		same(t, what+": Check", state.Check(s), api.OK)
	}
}

// TestCheckAndPut: P8.1 and P8.2, of states that are valid, those at every part's bounds among them.
func TestCheckAndPut(t *testing.T) {
	for _, s := range states() {
		what := fmt.Sprint(s)
		same(t, "Check of "+what, state.Check(s), api.OK)
		sameText(t, "Put of "+what, state.Put(s), encoding(s))
	}
}

// TestBounds: P8.1, P8.2 and P8.3: each part of either player and of every shot, beyond both of its bounds.
func TestBounds(t *testing.T) {
	for _, bad := range spoilt() {
		notValid(t, bad.what, bad.s)
	}
}

// TestSmallParts: P8.1, of every number that the parts of 8 bits can be.
func TestSmallParts(t *testing.T) {
	for n := range 256 {
		s := plain(most)
		for _, p := range bounded(most) {
			if _, small := p.at(&s).(*uint8); !small {
				continue
			}
			one := clone(s)
			p.set(&one, int64(n))
			want := api.OK
			if int64(n) < p.low || int64(n) > p.high {
				want = api.ErrForm
			}
			same(t, fmt.Sprintf("Check with %s %d", p.name, n), state.Check(one), want)
		}
	}
}

// TestNumberOfShots: P8.1: 0, 8 and 9 shots, and far more; a list that is nil, and one that is empty.
func TestNumberOfShots(t *testing.T) {
	for n := range most + 1 {
		same(t, fmt.Sprintf("Check with %d shots", n), state.Check(plain(n)), api.OK)
	}
	for _, n := range []int{9, 10, 127, 128, 255, 256, 264, 65536} {
		s := plain(0)
		s.Shots = slices.Repeat(plain(1).Shots, n)
		notValid(t, fmt.Sprintf("%d shots", n), s)
	}
	none, empty := plain(0), plain(0)
	none.Shots, empty.Shots = nil, []api.Shot{}
	same(t, "Check with nil", state.Check(none), api.OK)
	same(t, "Check with an empty list", state.Check(empty), api.OK)
	sameText(t, "Put with an empty list", state.Put(empty), state.Put(none))
	same(t, "Same of nil and an empty list", state.Same(none, empty), true)
	same(t, "Same of an empty list and nil", state.Same(empty, none), true)
	sameState(t, "Copy with an empty list", state.Copy(empty), none)
}

// TestSeveralFaults: P8.1: more parts than one beyond their bounds, and too many shots of which some are.
func TestSeveralFaults(t *testing.T) {
	r := rand.New(rand.NewSource(3))
	for range 500 {
		s := plain(r.Intn(most + 3))
		l := bounded(len(s.Shots))
		for range 2 + r.Intn(4) {
			p := l[r.Intn(len(l))]
			p.set(&s, p.high+1)
		}
		notValid(t, fmt.Sprint(s), s)
	}
}

// TestAnyFreeParts: P8.1 and P8.2: Frame, Seed and Score at 0 and at their greatest numbers.
func TestAnyFreeParts(t *testing.T) {
	for _, n := range []uint64{0, 1, math.MaxUint64} {
		for _, m := range []uint16{0, 1, math.MaxUint16} {
			s := plain(1)
			s.Frame, s.Seed, s.Score = n, n, [2]uint16{m, math.MaxUint16 - m}
			same(t, "Check of "+fmt.Sprint(s), state.Check(s), api.OK)
			takeTo(t, fmt.Sprint(s), state.Put(s), s, api.OK)
		}
	}
}

// TestEncoding: P8.2, part by part, byte by byte: every part is another number, some below 0.
func TestEncoding(t *testing.T) {
	s := plain(0)
	s.Shots = []api.Shot{
		{X: 0xfdfe, Y: 0x7dfc, VX: -2, VY: -2048, Owner: 1, Life: 39},
		{X: 0x1112, Y: 0x1314, VX: 0x0707, VY: -0x0605, Owner: 0, Life: 2},
	}
	want := []string{
		"\x01\x02\x03\x04\x05\x06\x07\x08", "\xf1\xf2\xf3\xf4\xf5\xf6\xf7\xf8", // Frame, Seed
		"\xe9\x03\x00\x00", "\xea\x03\x00\x00", "\x15\xfc\xff\xff", "\xec\x03\x00\x00", "\x5b", "\x0b", "\x01", // player 0
		"\xd1\x07\x00\x00", "\xd2\x07\x00\x00", "\x89\x03\x00\x00", "\x76\xfc\xff\xff", "\x5c", "\x0c", "\x02", // player 1
		"\x02", // the number of shots
		"\xfe\xfd\x00\x00", "\xfc\x7d\x00\x00", "\xfe\xff\xff\xff", "\x00\xf8\xff\xff", "\x01", "\x27",
		"\x12\x11\x00\x00", "\x14\x13\x00\x00", "\x07\x07\x00\x00", "\xfb\xf9\xff\xff", "\x00", "\x02",
		"\x09\x0a", "\xf9\xfa", // the scores
	}
	text := strings.Join(want, "")
	sameText(t, "Put", state.Put(s), text)
	takeTo(t, "the same bytes", text, s, api.OK)
}

// TestEachPartHasItsBytes: P8.2: a part that changes changes the bytes of its own place alone.
func TestEachPartHasItsBytes(t *testing.T) {
	s := plain(3)
	text := state.Put(s)
	widths := map[string]int{"*uint64": 8, "*int32": 4, "*uint16": 2, "*uint8": 1}
	order := slices.Concat(free()[:2], bounded(3), free()[2:])
	at := 0
	for i, p := range order {
		if i == 2+7+7 {
			same(t, "the number of shots", text[at], 3)
			at++
		}
		width := widths[fmt.Sprintf("%T", p.at(&s))]
		changed := clone(s)
		if p.set(&changed, p.high); equal(s, changed) {
			p.set(&changed, p.low)
		}
		other := state.Put(changed)
		if other[:at] != text[:at] || other[at+width:] != text[at+width:] || other[at:at+width] == text[at:at+width] {
			t.Errorf("%s is not in the %d bytes at %d", p.name, width, at)
		}
		at += width
	}
	same(t, "all bytes", len(text), at)
}

// withNumber is the encoding of a state with the given bytes for the number of shots, and others behind them.
func withNumber(number, rest string) string {
	return encoding(plain(0))[:countAt] + number + rest
}

// TestTakeFaults: P8.3: each of its errors, and where several apply, the one that is named first.
func TestTakeFaults(t *testing.T) {
	nineOnes, tenTops := strings.Repeat("\xff", 9), strings.Repeat("\x80", 10)
	badPlayer := plain(0)
	badPlayer.Players[0].Health = 0
	badShot := plain(1)
	badShot.Shots[0].Life = 0
	shots := encoding(plain(9))[firstShot:]
	for _, row := range []struct {
		what, text string
		e          api.Errno
	}{
		{"the empty string", "", api.ErrTorn},
		{"one byte", "\x00", api.ErrTorn},
		{"no number of shots", withNumber("", ""), api.ErrTorn},
		{"a number that is torn", withNumber("\x80", ""), api.ErrTorn},
		{"a number above 8 that is torn", withNumber("\xff\xff", ""), api.ErrTorn},
		{"0 in two bytes", withNumber("\x80\x00", "\x00\x00\x00\x00"), api.ErrForm},
		{"1 in two bytes, and nothing", withNumber("\x81\x00", ""), api.ErrForm},
		{"a number of ten bytes, the last one 2", withNumber(nineOnes+"\x02", shots), api.ErrLong},
		{"a number of more than ten bytes", withNumber(tenTops, ""), api.ErrLong},
		{"the greatest number", withNumber(nineOnes+"\x01", ""), api.ErrForm},
		{"2^32 shots", withNumber("\x80\x80\x80\x80\x10", "\x00\x00\x00\x00"), api.ErrForm},
		{"2^63 shots", withNumber(tenTops[:9]+"\x01", shots), api.ErrForm},
		{"128 shots, and nothing", withNumber("\x80\x01", ""), api.ErrForm},
		{"9 shots, and nothing", withNumber("\x09", ""), api.ErrForm},
		{"9 shots, torn", withNumber("\x09", shots[:len(shots)-1]), api.ErrForm},
		{"9 shots", withNumber("\x09", shots), api.ErrForm},
		{"9 shots, and a byte", withNumber("\x09", shots+"\x00"), api.ErrForm},
		{"8 shots, and nothing", withNumber("\x08", ""), api.ErrTorn},
		{"8 shots, torn", withNumber("\x08", shots[:8*shotBytes+tailBytes-1]), api.ErrTorn},
		{"bytes behind a state that is valid", encoding(plain(1)) + "\x00", api.ErrForm},
		{"bytes behind a state that is not", encoding(badPlayer) + "\x00", api.ErrForm},
		{"bytes behind one with a bad shot", encoding(badShot) + "\x00", api.ErrForm},
		{"a bad player", encoding(badPlayer), api.ErrForm},
		{"a bad shot", encoding(badShot), api.ErrForm},
		{"a bad player, torn", encoding(badPlayer)[:firstShot], api.ErrTorn},
		{"a bad shot, torn", encoding(badShot)[:firstShot+shotBytes+3], api.ErrTorn},
		{"a bad player, and no number", encoding(badPlayer)[:countAt], api.ErrTorn},
		{"a bad player, and a number that is too long", encoding(badPlayer)[:countAt] + tenTops, api.ErrLong},
		{"a bad player, and 9 shots", encoding(badPlayer)[:countAt] + "\x09", api.ErrForm},
		{"two states", encoding(plain(2)) + encoding(plain(2)), api.ErrForm},
	} {
		takeFails(t, row.what, row.text, row.e)
	}
	takeTo(t, "8 shots", withNumber("\x08", encoding(plain(8))[firstShot:]), plain(8), api.OK)
}

// TestTakeAny: P8.3 by the chapter's words: bytes of which one is replaced, left out, or put in.
func TestTakeAny(t *testing.T) {
	r := rand.New(rand.NewSource(2))
	for _, s := range states() {
		text := encoding(s)
		for range 30 {
			at := r.Intn(len(text))
			if r.Intn(5) == 0 {
				at = countAt
			}
			one := string([]byte{byte(r.Uint32())})
			for _, spoilt := range []string{text[:at] + one + text[at+1:], text[:at] + text[at+1:], text[:at] + one + text[at:]} {
				want, e := decoded(spoilt)
				takeTo(t, fmt.Sprintf("% x", spoilt), spoilt, want, e)
				if e == api.OK {
					sameText(t, "Put of Take", state.Put(want), spoilt)
				}
			}
		}
	}
}

// TestTakeBytes: P8.3 and P8.6: no bytes make it panic, and each number of shots is read as it should be.
func TestTakeBytes(t *testing.T) {
	r := rand.New(rand.NewSource(4))
	for n := range 256 {
		b := make([]byte, n)
		r.Read(b)
		want, e := decoded(string(b))
		takeTo(t, fmt.Sprintf("% x", b), string(b), want, e)
		for _, rest := range []string{"", "\x00\x01\x7f\x80\xff", strings.Repeat("\x01", 200)} {
			text := withNumber(string([]byte{byte(n)}), rest)
			want, e := decoded(text)
			takeTo(t, fmt.Sprintf("% x", text), text, want, e)
		}
	}
}

// TestSame: P8.4: a state and one that differs in one bit alone, for each bit of each part, in both orders.
func TestSame(t *testing.T) {
	for _, n := range []int{0, 1, 3, most, most + 1} {
		s := plain(n)
		same(t, "Same of a state and itself", state.Same(s, s), true)
		same(t, "Same of a state and its like", state.Same(s, plain(n)), true)
		for _, p := range all(n) {
			for bit := 0; ; bit++ {
				other := plain(n)
				if !p.flip(&other, bit) {
					break
				}
				same(t, "Same but for "+p.name, state.Same(s, other), false)
				same(t, "Same but for "+p.name+", in turn", state.Same(other, s), false)
			}
		}
		longer := plain(n + 1)
		same(t, "Same but for a shot more", state.Same(s, longer), false)
		same(t, "Same but for a shot less", state.Same(longer, s), false)
	}
	s, turned := plain(2), plain(2)
	slices.Reverse(turned.Shots)
	same(t, "Same but for the order of the shots", state.Same(s, turned), false)
}

// TestSameOfEqualShots: P8.4: shots that are all alike, or zero, count, too.
func TestSameOfEqualShots(t *testing.T) {
	for a := range 4 {
		for b := range 4 {
			s, other := plain(0), plain(0)
			s.Shots, other.Shots = make([]api.Shot, a), make([]api.Shot, b, 9)
			same(t, fmt.Sprintf("Same with %d and %d shots", a, b), state.Same(s, other), a == b)
		}
	}
}

// TestCopy: P8.4: an equal state, of any number of shots, valid or not; what is changed afterwards in either is the other's own.
func TestCopy(t *testing.T) {
	l := append(states(), plain(9), plain(300), api.State{})
	for _, bad := range spoilt() {
		l = append(l, bad.s)
	}
	for _, s := range l {
		before := clone(s)
		c := state.Copy(s)
		sameState(t, "Copy", c, before)
		same(t, "Same of the copy", state.Same(c, s), true)
		for i := range c.Shots {
			c.Shots[i] = api.Shot{X: -7}
			sameState(t, "a state whose copy was changed", s, before)
		}
		c = state.Copy(s)
		for i := range s.Shots {
			s.Shots[i] = api.Shot{X: -8}
			sameState(t, "a copy whose state was changed", c, before)
		}
	}
}

// TestCopyHasRoomOfItsOwn: P8.4: what is appended to either list does not reach the other one's memory.
func TestCopyHasRoomOfItsOwn(t *testing.T) {
	for n := range most {
		whole := plain(most + 1)
		s := whole
		s.Shots = s.Shots[:n]
		c := state.Copy(s)
		c.Shots = append(c.Shots, api.Shot{X: -7}, api.Shot{X: -7})
		sameState(t, "what lies behind a state's shots", whole, plain(most+1))
		s.Shots = append(s.Shots, api.Shot{X: -8}, api.Shot{X: -8})
		same(t, "a shot behind a copy's", c.Shots[n], api.Shot{X: -7})
	}
}

// TestRoundTrip: P8.5.
func TestRoundTrip(t *testing.T) {
	for _, s := range states() {
		text := state.Put(s)
		takeTo(t, fmt.Sprint(s), text, s, api.OK)
		again, _ := state.Take(text)
		same(t, "Same of what was put", state.Same(again, s), true)
		same(t, "Check of what was taken", state.Check(again), api.OK)
		sameText(t, "Put of Take", state.Put(again), text)
	}
}

// TestOneEncoding: P8.5: two states have the same encoding exactly if they are equal.
func TestOneEncoding(t *testing.T) {
	l := states()
	texts := make([]string, len(l))
	for i, s := range l {
		texts[i] = state.Put(s)
	}
	for i, s := range l {
		for k, other := range l {
			if (texts[i] == texts[k]) != equal(s, other) || state.Same(s, other) != equal(s, other) {
				t.Errorf("%v, %v: Same is %v", s, other, state.Same(s, other))
			}
		}
	}
}

// TestPrefixes: P8.6: every proper prefix, and each byte more.
func TestPrefixes(t *testing.T) {
	for n := range most + 1 {
		text := state.Put(plain(n))
		same(t, "the bytes", len(text), 59+n*shotBytes)
		for cut := range len(text) {
			takeFails(t, fmt.Sprintf("%d bytes of %d", cut, len(text)), text[:cut], api.ErrTorn)
		}
		for b := range 256 {
			takeFails(t, fmt.Sprintf("%d shots and %d", n, b), text+string([]byte{byte(b)}), api.ErrForm)
		}
	}
	for _, s := range states() {
		text := state.Put(s)
		takeFails(t, "all but the last byte", text[:len(text)-1], api.ErrTorn)
		takeFails(t, "many bytes more", text+text, api.ErrForm)
	}
}

// TestArguments: P8.6: they are neither changed nor kept, and what lies behind the shots is neither read nor changed.
func TestArguments(t *testing.T) {
	for n := range most + 1 {
		whole := plain(most + 1)
		whole.Shots[most].Life = 0
		before := clone(whole)
		s := whole
		s.Shots = s.Shots[:n]
		same(t, "Check", state.Check(s), api.OK)
		text := state.Put(s)
		sameText(t, "Put", text, encoding(plain(n)))
		same(t, "Same", state.Same(s, plain(n)), true)
		sameState(t, "Copy", state.Copy(s), plain(n))
		sameState(t, "the argument", whole, before)
		kept := strings.Clone(text)
		for i := range whole.Shots {
			whole.Shots[i] = api.Shot{X: -9}
		}
		sameText(t, "what was put", text, kept)
	}
}

// TestNewMemory: P8.6: what Take returns is the caller's own.
func TestNewMemory(t *testing.T) {
	for n := range most + 1 {
		text := state.Put(plain(n))
		first, _ := state.Take(text)
		second, _ := state.Take(text)
		for i := range first.Shots {
			first.Shots[i] = api.Shot{X: -7}
		}
		_ = append(first.Shots, api.Shot{X: -7})
		sameState(t, "the second one", second, plain(n))
		takeTo(t, "the same bytes", text, plain(n), api.OK)
	}
}
