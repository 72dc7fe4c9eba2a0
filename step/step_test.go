package step_test

import (
	"fmt"
	"math"
	"math/rand"
	"slices"
	"testing"

	"hindcast/api"
	"hindcast/input"
	"hindcast/rng"
	"hindcast/state"
	"hindcast/step"
)

const (
	none  api.Input = 0
	left  api.Input = 1
	right api.Input = 2
	up    api.Input = 4
	down  api.Input = 8
	fire  api.Input = 16
	dash  api.Input = 32
)

const (
	lastX = 61440
	lastY = 28672
	drawn = 0x3c6ef372fe94f82a // what two numbers add to a seed: twice 0x9e3779b97f4a7c15
)

// apart is a state of two players who are far from each other, from the walls and from where a shot of the other one gets in a frame; its shots are out of everyone's way.
func apart(shots int) api.State {
	s := api.State{Frame: 41, Seed: 99, Score: [2]uint16{3, 5}}
	s.Players[0] = api.Player{X: 20000, Y: 12000, Health: 90, Cool: 0, Face: 3}
	s.Players[1] = api.Player{X: 40000, Y: 18000, Health: 80, Cool: 0, Face: 2}
	for i := range int32(shots) {
		s.Shots = append(s.Shots, api.Shot{X: 1000 * i, Y: 1000, VX: i, VY: -i, Owner: uint8(i % 2), Life: uint8(40 - i)})
	}
	return s
}

// drifted are shots that nothing ends, a frame later.
func drifted(l []api.Shot) []api.Shot {
	l = slices.Clone(l)
	for i := range l {
		l[i].X += l[i].VX
		l[i].Y += l[i].VY
		l[i].Life--
	}
	return l
}

// only is the pair in which player i does in, and the other one nothing.
func only(i int, in api.Input) api.Pair {
	var p api.Pair
	p[i] = in
	return p
}

func clone(s api.State) api.State {
	s.Shots = slices.Clone(s.Shots)
	return s
}

func equal(a, b api.State) bool {
	return a.Frame == b.Frame && a.Seed == b.Seed && a.Players == b.Players && a.Score == b.Score && slices.Equal(a.Shots, b.Shots)
}

func same[T comparable](t *testing.T, what string, got, want T) {
	t.Helper()
	if got != want {
		t.Errorf("%s: %v, not %v", what, got, want)
	}
}

func sameState(t *testing.T, what string, got, want api.State) {
	t.Helper()
	if !equal(got, want) {
		t.Errorf("%s: %v, not %v", what, got, want)
	}
}

// stepTo holds Step to want, and s to what it was.
func stepTo(t *testing.T, what string, s api.State, p api.Pair, want api.State) {
	t.Helper()
	before := clone(s)
	sameState(t, what, step.Step(s, p), want)
	sameState(t, what+", the state handed in", s, before)
}

// box is a player's or a shot's: where it begins, and its side.
type box struct{ x, y, side int64 }

func player(p api.Player) box { return box{int64(p.X), int64(p.Y), 4096} }

func (a box) overlaps(b box) bool {
	return a.x < b.x+b.side && b.x < a.x+a.side && a.y < b.y+b.side && b.y < a.y+a.side
}

func (a box) inArena() bool {
	return a.x >= 0 && a.y >= 0 && a.x+a.side <= 65536 && a.y+a.side <= 32768
}

func together(s api.State) bool { return player(s.Players[0]).overlaps(player(s.Players[1])) }

// frame is the chapter's, step by step and word by word.
func frame(s api.State, p api.Pair) api.State {
	s = fourSteps(s, p)
	for i := range s.Players {
		fifthStep(&s, i)
	}
	s.Frame++
	return s
}

func fourSteps(s api.State, p api.Pair) api.State {
	s = clone(s)
	for i := range s.Players {
		firstStep(&s.Players[i], p[i])
	}
	for i := range s.Players {
		secondStep(&s, uint8(i), p[i])
	}
	thirdStep(&s)
	fourthStep(&s)
	return s
}

func firstStep(p *api.Player, in api.Input) {
	x, y := input.Dir(in)
	if p.Cool > 0 {
		p.Cool--
	}
	if x > 0 {
		p.Face = 0
	} else if x < 0 {
		p.Face = 1
	} else if y < 0 {
		p.Face = 2
	} else if y > 0 {
		p.Face = 3
	}
	p.VX, p.VY = speed(p.VX, x), speed(p.VY, y)
	if in&dash != 0 && p.Cool == 0 {
		p.VX *= 2
		p.VY *= 2
		p.Cool = 30
	}
	p.VX, p.VY = clamped(p.VX), clamped(p.VY)
}

func speed(v, way int32) int32 {
	if way != 0 {
		return v + 64*way
	}
	v -= int32(math.Trunc(float64(v) / 8))
	if v > -8 && v < 8 {
		return 0
	}
	return v
}

func clamped(v int32) int32 {
	if v > 1024 {
		return 1024
	}
	if v < -1024 {
		return -1024
	}
	return v
}

func secondStep(s *api.State, i uint8, in api.Input) {
	p := &s.Players[i]
	if in&fire == 0 || p.Cool != 0 || len(s.Shots) >= 8 {
		return
	}
	shot := api.Shot{X: p.X + 1792, Y: p.Y + 1792, Owner: i, Life: 40}
	switch p.Face {
	case 0:
		shot.VX = 2048
	case 1:
		shot.VX = -2048
	case 2:
		shot.VY = -2048
	case 3:
		shot.VY = 2048
	}
	s.Shots = append(s.Shots, shot)
	p.Cool = 10
}

func thirdStep(s *api.State) {
	before := s.Players
	for i := range s.Players {
		p := &s.Players[i]
		p.X, p.VX = walled(p.X, p.VX, lastX)
		p.Y, p.VY = walled(p.Y, p.VY, lastY)
	}
	if together(*s) {
		s.Players = before
		for i := range s.Players {
			s.Players[i].VX, s.Players[i].VY = 0, 0
		}
	}
}

func walled(x, v, most int32) (int32, int32) {
	if x+v < 0 {
		return 0, 0
	}
	if x+v > most {
		return most, 0
	}
	return x + v, v
}

func fourthStep(s *api.State) {
	s.Shots = slices.DeleteFunc(s.Shots, func(shot api.Shot) bool { return gone(s, shot) })
	for i := range s.Shots {
		s.Shots[i].X += s.Shots[i].VX
		s.Shots[i].Y += s.Shots[i].VY
		s.Shots[i].Life--
	}
}

// gone tells whether shot is removed, which it is ahead of its move here.
func gone(s *api.State, shot api.Shot) bool {
	b := box{int64(shot.X) + int64(shot.VX), int64(shot.Y) + int64(shot.VY), 512}
	if !b.inArena() {
		return true
	}
	other := &s.Players[1-shot.Owner]
	if !b.overlaps(player(*other)) {
		return shot.Life == 1
	}
	other.Health = uint8(max(0, int(other.Health)-10))
	s.Score[shot.Owner] = uint16(min(65535, int(s.Score[shot.Owner])+1))
	return true
}

func fifthStep(s *api.State, i int) {
	p := &s.Players[i]
	if p.Health != 0 {
		return
	}
	p.Health, p.VX, p.VY = 100, 0, 0
	b := box{side: 4096}
	b.x, b.y = draw(s.Seed)
	if !b.overlaps(player(s.Players[1-i])) {
		p.X, p.Y = int32(b.x), int32(b.y)
	}
	s.Seed += drawn
}

// draw is the place that a seed tells, from its numbers by position.
func draw(seed uint64) (int64, int64) {
	below := func(n, most uint64) int64 { return int64(rng.At(seed, n) >> 32 * most >> 32) }
	return below(0, 61441), below(1, 28673)
}

// TestExamples holds the chapter's table.
func TestExamples(t *testing.T) {
	s := state.Start(7)
	want := func(change func(s *api.State)) api.State {
		w := clone(s)
		w.Frame = 1
		change(&w)
		return w
	}
	stepTo(t, "none and none", s, api.Pair{0, 0}, want(func(s *api.State) {}))
	stepTo(t, "right and none", s, api.Pair{2, 0}, want(func(s *api.State) {
		s.Players[0].X, s.Players[0].VX, s.Players[0].Face = 8192+64, 64, 0
	}))
	stepTo(t, "right and dash and none", s, api.Pair{34, 0}, want(func(s *api.State) {
		s.Players[0].X, s.Players[0].VX, s.Players[0].Cool = 8192+128, 128, 30
	}))
	stepTo(t, "fire and none", s, api.Pair{16, 0}, want(func(s *api.State) {
		s.Players[0].Cool = 10
		s.Shots = []api.Shot{{X: 8192 + 1792 + 2048, Y: 14336 + 1792, VX: 2048, Owner: 0, Life: 39}}
	}))
	stepTo(t, "64 and none", s, api.Pair{64, 0}, s)
}

// TestCool: P9.1, step 1: Cool alone, of every number.
func TestCool(t *testing.T) {
	for i := range 2 {
		for cool := range uint8(31) {
			s := apart(0)
			s.Players[i].Cool = cool
			want := clone(s)
			want.Frame++
			if cool > 0 {
				want.Players[i].Cool = cool - 1
			}
			stepTo(t, fmt.Sprintf("player %d's Cool %d", i, cool), s, api.Pair{}, want)
		}
	}
}

// TestFace: P9.1, step 1: behind each direction, and behind those that cancel out.
func TestFace(t *testing.T) {
	const before = 4 // as it was
	rows := map[api.Input]int{
		right: 0, left: 1, up: 2, down: 3, none: before,
		right | up: 0, right | down: 0, left | up: 1, left | down: 1,
		left | right: before, up | down: before, left | right | up | down: before,
		left | right | up: 2, left | right | down: 3, up | down | right: 0, up | down | left: 1,
	}
	for in, face := range rows {
		for i := range 2 {
			for was := range 4 {
				s := apart(0)
				s.Players[i].Face = uint8(was)
				want := face
				if face == before {
					want = was
				}
				got := step.Step(s, only(i, in))
				what := fmt.Sprintf("player %d, Face %d, input %d: Face of", i, was, in)
				same(t, what+" him", got.Players[i].Face, uint8(want))
				same(t, what+" the other one", got.Players[1-i].Face, s.Players[1-i].Face)
			}
		}
	}
}

// speedTo holds both speeds of either player to v's result, each by itself, with the other one at 0.
func speedTo(t *testing.T, v int32, back, forth, more api.Input, cool uint8, want int32) {
	t.Helper()
	for i := range 2 {
		s := apart(0)
		s.Players[i].VX, s.Players[i].Cool = v, cool
		in := back&left | forth&right | more
		p := step.Step(s, only(i, in)).Players[i]
		what := fmt.Sprintf("player %d, speed %d, Cool %d, input %d", i, v, cool, in)
		same(t, what+": VX", p.VX, want)
		same(t, what+": VY", p.VY, 0)
		same(t, what+": X", p.X, s.Players[i].X+want)
		s.Players[i].VX, s.Players[i].VY = 0, v
		in = back&up | forth&down | more
		p = step.Step(s, only(i, in)).Players[i]
		what = fmt.Sprintf("player %d, speed %d, Cool %d, input %d", i, v, cool, in)
		same(t, what+": VX", p.VX, 0)
		same(t, what+": VY", p.VY, want)
		same(t, what+": Y", p.Y, s.Players[i].Y+want)
	}
}

// waysTo holds v, and -v the other way round, to want; way is -1, 0 or 1.
func waysTo(t *testing.T, v, way int32, more api.Input, cool uint8, want int32) {
	t.Helper()
	const all = 0xff
	switch way {
	case 1:
		speedTo(t, v, 0, all, more, cool, want)
		speedTo(t, -v, all, 0, more, cool, -want)
	case -1:
		speedTo(t, v, all, 0, more, cool, want)
		speedTo(t, -v, 0, all, more, cool, -want)
	default:
		speedTo(t, v, 0, 0, more, cool, want)
		speedTo(t, -v, all, all, more, cool, -want)
	}
}

// TestSpeeds: P9.1, step 1: pushed, slowed down by an eighth, which is rounded toward 0, and clamped.
func TestSpeeds(t *testing.T) {
	for _, row := range []struct{ v, way, want int32 }{
		{0, 0, 0}, {1, 0, 0}, {7, 0, 0}, {8, 0, 0}, {9, 0, 8}, {10, 0, 9}, {15, 0, 14}, {16, 0, 14}, {17, 0, 15}, {23, 0, 21}, {24, 0, 21},
		{63, 0, 56}, {64, 0, 56}, {1023, 0, 896}, {1024, 0, 896},
		{0, 1, 64}, {1, 1, 65}, {64, 1, 128}, {959, 1, 1023}, {960, 1, 1024}, {961, 1, 1024}, {1023, 1, 1024}, {1024, 1, 1024},
		{1024, -1, 960}, {72, -1, 8}, {71, -1, 7}, {65, -1, 1}, {64, -1, 0}, {63, -1, -1}, {57, -1, -7}, {56, -1, -8}, {1, -1, -63},
	} {
		waysTo(t, row.v, row.way, none, 0, row.want)
		waysTo(t, row.v, row.way, none, 30, row.want)
	}
	for v := range int32(1025) {
		slow := v - v/8
		if slow < 8 {
			slow = 0
		}
		waysTo(t, v, 0, none, 0, slow)
		waysTo(t, v, 1, none, 0, min(v+64, 1024))
		waysTo(t, v, -1, none, 0, v-64)
	}
}

// TestDash: P9.1, step 1: with Cool at 0, by the decrease too, and above 0.
func TestDash(t *testing.T) {
	for _, row := range []struct{ v, way, want int32 }{
		{0, 0, 0}, {0, 1, 128}, {7, 0, 0}, {8, 0, 0}, {9, 0, 16}, {64, -1, 0}, {63, -1, -2}, {57, -1, -14}, {1024, -1, 1024}, {575, -1, 1022}, {576, -1, 1024}, {577, -1, 1024},
		{447, 1, 1022}, {448, 1, 1024}, {449, 1, 1024}, {512, 1, 1024}, {1024, 1, 1024}, {512, 0, 896}, {584, 0, 1022}, {585, 0, 1024}, {586, 0, 1024}, {1024, 0, 1024},
	} {
		waysTo(t, row.v, row.way, dash, 0, row.want)
		waysTo(t, row.v, row.way, dash, 1, row.want)
	}
	for _, cool := range []uint8{2, 3, 30} {
		waysTo(t, 512, 0, dash, cool, 448)
		waysTo(t, 512, 1, dash, cool, 576)
	}
	for i := range 2 {
		for cool := range uint8(31) {
			s := apart(0)
			s.Players[i].VX, s.Players[i].VY, s.Players[i].Cool = 100, -200, cool
			want := clone(s)
			want.Frame++
			p := &want.Players[i]
			p.VX, p.VY, p.Face, p.Cool = 164, -175, 0, max(cool, 1)-1
			if p.Cool == 0 {
				p.VX, p.VY, p.Cool = 328, -350, 30
			}
			p.X, p.Y = p.X+p.VX, p.Y+p.VY
			stepTo(t, fmt.Sprintf("player %d dashes with Cool %d", i, cool), s, only(i, right|dash), want)
		}
	}
}

// shotOf is a shot of s's player i, a frame after it is fired.
func shotOf(s api.State, i int, vx, vy int32) api.Shot {
	p := s.Players[i]
	return api.Shot{X: p.X + 1792 + vx, Y: p.Y + 1792 + vy, VX: vx, VY: vy, Owner: uint8(i), Life: 39}
}

// TestFire: P9.1, step 2: in each direction, from each number of shots there, with each Cool.
func TestFire(t *testing.T) {
	speeds := [4][2]int32{{2048, 0}, {-2048, 0}, {0, -2048}, {0, 2048}}
	for i := range 2 {
		for face, v := range speeds {
			for cool := range uint8(31) {
				for shots := range 9 {
					s := apart(shots)
					s.Players[i].Face, s.Players[i].Cool = uint8(face), cool
					want := clone(s)
					want.Frame++
					want.Shots = drifted(s.Shots)
					want.Players[i].Cool = max(cool, 1) - 1
					if cool < 2 && shots < 8 {
						want.Shots = append(want.Shots, shotOf(s, i, v[0], v[1]))
						want.Players[i].Cool = 10
					}
					stepTo(t, fmt.Sprintf("player %d, Face %d, Cool %d, %d shots", i, face, cool, shots), s, only(i, fire), want)
				}
			}
		}
	}
}

// TestBothFire: P9.1, step 2: player 0 is the first to, and player 1 is left out if that was the last shot.
func TestBothFire(t *testing.T) {
	for shots := range 9 {
		s := apart(shots)
		want := clone(s)
		want.Frame++
		want.Shots = drifted(s.Shots)
		if shots < 8 {
			want.Shots = append(want.Shots, shotOf(s, 0, 0, 2048))
			want.Players[0].Cool = 10
		}
		if shots < 7 {
			want.Shots = append(want.Shots, shotOf(s, 1, 0, -2048))
			want.Players[1].Cool = 10
		}
		stepTo(t, fmt.Sprintf("both fire with %d shots", shots), s, api.Pair{fire, fire}, want)
	}
}

// TestFireAndMore: P9.1: a shot begins where the player was ahead of his move, and where he looks behind his turn; one who dashes in the frame doesn't fire; a shot that is removed in the frame leaves no room for another one yet.
func TestFireAndMore(t *testing.T) {
	for i := range 2 {
		who := fmt.Sprintf("player %d: ", i)
		s := apart(0)
		s.Players[i].VX, s.Players[i].VY = 800, -400
		want := clone(s)
		want.Frame++
		want.Shots = []api.Shot{shotOf(s, i, -2048, 0)}
		p := &want.Players[i]
		p.VX, p.VY, p.Face, p.Cool = 736, -350, 1, 10
		p.X, p.Y = p.X+736, p.Y-350
		stepTo(t, who+"fires, and turns", s, only(i, fire|left), want)

		want = clone(s)
		want.Frame++
		p = &want.Players[i]
		p.VX, p.VY, p.Cool = 1024, -700, 30
		p.X, p.Y = p.X+1024, p.Y-700
		stepTo(t, who+"fires, and dashes", s, only(i, fire|dash), want)

		s = apart(8)
		s.Shots[3].Life = 1
		want = clone(s)
		want.Frame++
		want.Shots = slices.Delete(drifted(s.Shots), 3, 4)
		stepTo(t, who+"fires, while a shot ends", s, only(i, fire), want)

		s = apart(0)
		s.Players[i].X, s.Players[i].Face = lastX, 0
		want = clone(s)
		want.Frame++
		want.Shots = []api.Shot{shotOf(s, i, 2048, 0)}
		same(t, who+"where a shot from the wall ends", want.Shots[0].X+512, 65792)
		want.Shots = nil
		want.Players[i].Cool = 10
		stepTo(t, who+"fires at the wall", s, only(i, fire), want)
	}
}

// TestFireAtOther: P9.1: a shot hits in the frame in which it is fired, too.
func TestFireAtOther(t *testing.T) {
	for i := range 2 {
		s := apart(0)
		s.Players[i].Face = 0
		s.Players[1-i].X, s.Players[1-i].Y = s.Players[i].X+4096, s.Players[i].Y
		want := clone(s)
		want.Frame++
		want.Players[i].Cool = 10
		want.Players[1-i].Health -= 10
		want.Score[i]++
		stepTo(t, fmt.Sprintf("player %d fires at the one beside him", i), s, only(i, fire), want)
	}
}

// TestWalls: P9.1, step 3: up to each wall, to it exactly, beyond it by one, and from it.
func TestWalls(t *testing.T) {
	for i := range 2 {
		for _, row := range []struct {
			in       api.Input
			x, y     int32
			toX, toY int32
			vx, vy   int32
			what     string
		}{
			{left, 65, 9, 1, 9, -64, 0, "nearly to the left wall"},
			{left, 64, 9, 0, 9, -64, 0, "to the left wall"},
			{left, 63, 9, 0, 9, 0, 0, "beyond the left wall"},
			{left, 0, 9, 0, 9, 0, 0, "at the left wall"},
			{right, 0, 9, 64, 9, 64, 0, "from the left wall"},
			{right, lastX - 65, 9, lastX - 1, 9, 64, 0, "nearly to the right wall"},
			{right, lastX - 64, 9, lastX, 9, 64, 0, "to the right wall"},
			{right, lastX - 63, 9, lastX, 9, 0, 0, "beyond the right wall"},
			{right, lastX, 9, lastX, 9, 0, 0, "at the right wall"},
			{left, lastX, 9, lastX - 64, 9, -64, 0, "from the right wall"},
			{up, 9, 65, 9, 1, 0, -64, "nearly to the upper wall"},
			{up, 9, 64, 9, 0, 0, -64, "to the upper wall"},
			{up, 9, 63, 9, 0, 0, 0, "beyond the upper wall"},
			{up, 9, 0, 9, 0, 0, 0, "at the upper wall"},
			{down, 9, 0, 9, 64, 0, 64, "from the upper wall"},
			{down, 9, lastY - 65, 9, lastY - 1, 0, 64, "nearly to the lower wall"},
			{down, 9, lastY - 64, 9, lastY, 0, 64, "to the lower wall"},
			{down, 9, lastY - 63, 9, lastY, 0, 0, "beyond the lower wall"},
			{down, 9, lastY, 9, lastY, 0, 0, "at the lower wall"},
			{up, 9, lastY, 9, lastY - 64, 0, -64, "from the lower wall"},
			{left | up, 63, 64, 0, 0, 0, -64, "beyond one wall, and to the other one"},
			{right | down, lastX - 64, lastY - 63, lastX, lastY, 64, 0, "to one wall, and beyond the other one"},
			{right | down, lastX - 63, lastY - 63, lastX, lastY, 0, 0, "beyond both walls"},
		} {
			s := apart(0)
			s.Players[i].X, s.Players[i].Y = row.x, row.y
			s.Players[1-i].X, s.Players[1-i].Y = 30000, 16000
			p := step.Step(s, only(i, row.in)).Players[i]
			got := [4]int32{p.X, p.Y, p.VX, p.VY}
			same(t, fmt.Sprintf("player %d %s: X, Y, VX, VY", i, row.what), got, [4]int32{row.toX, row.toY, row.vx, row.vy})
		}
	}
}

// TestMeeting: P9.1, step 3: moves behind which the boxes touch, and those behind which they overlap, by one unit and by more.
func TestMeeting(t *testing.T) {
	faces := map[api.Input]uint8{right: 0, left: 1, up: 2, down: 3, right | down: 0}
	for i := range 2 {
		for _, row := range []struct {
			what   string
			in     api.Input
			dx, dy int32 // from player i to the other one
			back   bool
		}{
			{"to the right, to the box", right, 4096 + 64, 0, false},
			{"to the right, by 1 into the box", right, 4096 + 63, 0, true},
			{"to the right, from the box", right, 4096, 0, true},
			{"to the left, to the box", left, -4096 - 64, 100, false},
			{"to the left, by 1 into the box", left, -4096 - 63, 100, true},
			{"up to the box", up, -100, -4096 - 64, false},
			{"up by 1 into the box", up, -100, -4096 - 63, true},
			{"down to the box", down, 4095, 4096 + 64, false},
			{"down by 1 into the box", down, 4095, 4096 + 63, true},
			{"down beside the box", down, 4096, 4096 + 63, false},
			{"askew, past the corner", right | down, 4096 + 63, 4096 + 64, false},
			{"askew, by 1 into the corner", right | down, 4096 + 63, 4096 + 63, true},
			{"out of the box by 1 too little", right, -4031, 0, true},
			{"out of the box", right, -4032, 0, false},
		} {
			s := apart(0)
			p, q := &s.Players[i], &s.Players[1-i]
			q.X, q.Y = p.X+row.dx, p.Y+row.dy
			x, y := input.Dir(row.in)
			want := clone(s)
			want.Frame++
			p = &want.Players[i]
			p.Face = faces[row.in]
			if !row.back {
				p.VX, p.VY = 64*x, 64*y
				p.X, p.Y = p.X+p.VX, p.Y+p.VY
			}
			stepTo(t, fmt.Sprintf("player %d %s", i, row.what), s, only(i, row.in), want)
		}
	}
}

// TestReturning: P9.1, step 3: both return with all speeds 0, the one who stood or moved elsewhere too, and one whom a wall had stopped; Face and Cool stay as step 1 and step 2 left them.
func TestReturning(t *testing.T) {
	for i := range 2 {
		s := apart(0)
		p, q := &s.Players[i], &s.Players[1-i]
		p.X, p.Y, p.VX, p.VY, p.Cool = 4196, 100, -800, -800, 7
		q.X, q.Y, q.VX, q.VY, q.Cool = 0, 150, -800, -400, 8
		want := clone(s)
		want.Frame++
		p, q = &want.Players[i], &want.Players[1-i]
		p.VX, p.VY, p.Cool = 0, 0, 6
		q.VX, q.VY, q.Cool, q.Face = 0, 0, 7, 3
		stepTo(t, fmt.Sprintf("player %d runs into the other one", i), s, only(1-i, down), want)

		p, q = &s.Players[i], &s.Players[1-i]
		p.Cool, q.Cool = 0, 0
		want = clone(s)
		want.Frame++
		p, q = &want.Players[i], &want.Players[1-i]
		p.VX, p.VY, p.Cool, p.Face = 0, 0, 30, 1
		q.VX, q.VY, q.Cool, q.Face = 0, 0, 10, 3
		want.Shots = []api.Shot{shotOf(s, 1-i, 0, 2048)}
		both := only(1-i, down|fire)
		both[i] = left | dash
		stepTo(t, fmt.Sprintf("player %d dashes into the other one", i), s, both, want)
	}
}

// TestMeetingHalfway: P9.1, step 3: both move ahead of the question whether they overlap.
func TestMeetingHalfway(t *testing.T) {
	for i := range 2 {
		both := api.Pair{right, right}
		s := apart(0)
		p, q := &s.Players[i], &s.Players[1-i]
		q.X, q.Y = p.X+4096, p.Y
		want := clone(s)
		want.Frame++
		for k := range want.Players {
			want.Players[k].X, want.Players[k].VX, want.Players[k].Face = want.Players[k].X+64, 64, 0
		}
		stepTo(t, fmt.Sprintf("player %d behind the other one", i), s, both, want)

		both[1-i] = left
		q.X = p.X + 4096 + 128
		want = clone(s)
		want.Frame++
		p, q = &want.Players[i], &want.Players[1-i]
		p.X, p.VX, p.Face = p.X+64, 64, 0
		q.X, q.VX, q.Face = q.X-64, -64, 1
		stepTo(t, fmt.Sprintf("player %d meets the other one halfway", i), s, both, want)

		s.Players[1-i].X--
		want = clone(s)
		want.Frame++
		want.Players[i].Face, want.Players[1-i].Face = 0, 1
		stepTo(t, fmt.Sprintf("player %d by 1 into the other one", i), s, both, want)
	}
}

// flight is a shot of s and what becomes of it.
type flight struct {
	what string
	shot api.Shot
	hits bool
	goes bool // without a hit
}

// flightTo holds row's shot, as each player's, to what becomes of it; the other player is at x and y, and its owner far from there.
func flightTo(t *testing.T, row flight, x, y int32) {
	t.Helper()
	for i := range 2 {
		s := apart(0)
		s.Players[i].X, s.Players[i].Y = 30000, 14000
		s.Players[1-i].X, s.Players[1-i].Y = x, y
		row.shot.Owner = uint8(i)
		s.Shots = []api.Shot{row.shot}
		want := clone(s)
		want.Frame++
		want.Shots = nil
		if row.hits {
			want.Players[1-i].Health -= 10
			want.Score[i]++
		} else if !row.goes {
			want.Shots = drifted(s.Shots)
		}
		stepTo(t, fmt.Sprintf("a shot of player %d %s", i, row.what), s, api.Pair{}, want)
	}
}

// TestLeaving: P9.1, step 4: over each side of the arena, to it, and away from it.
func TestLeaving(t *testing.T) {
	for _, row := range []flight{
		{"to the left side", api.Shot{X: 2048, Y: 20000, VX: -2048, Life: 9}, false, false},
		{"over the left side", api.Shot{X: 2047, Y: 20000, VX: -2048, Life: 9}, false, true},
		{"to the right side", api.Shot{X: 65024 - 2048, Y: 20000, VX: 2048, Life: 9}, false, false},
		{"over the right side", api.Shot{X: 65025 - 2048, Y: 20000, VX: 2048, Life: 9}, false, true},
		{"to the upper side", api.Shot{X: 9000, Y: 2048, VY: -2048, Life: 9}, false, false},
		{"over the upper side", api.Shot{X: 9000, Y: 2047, VY: -2048, Life: 9}, false, true},
		{"to the lower side", api.Shot{X: 9000, Y: 32256 - 2048, VY: 2048, Life: 9}, false, false},
		{"over the lower side", api.Shot{X: 9000, Y: 32257 - 2048, VY: 2048, Life: 9}, false, true},
		{"wholly over the left side", api.Shot{X: 0, Y: 20000, VX: -2048, Life: 9}, false, true},
		{"wholly over the right side", api.Shot{X: 65024, Y: 20000, VX: 2048, Life: 9}, false, true},
		{"to a corner", api.Shot{X: 65023, Y: 32255, VX: 1, VY: 1, Life: 9}, false, false},
		{"over a corner", api.Shot{X: 65024, Y: 32256, VX: 1, VY: 1, Life: 9}, false, true},
		{"at rest in a corner", api.Shot{X: 0, Y: 0, Life: 9}, false, false},
		{"with both speeds", api.Shot{X: 9000, Y: 9000, VX: -77, VY: 1999, Life: 40}, false, false},
		{"along a side", api.Shot{X: 9000, Y: 32256, VX: 2048, Life: 9}, false, false},
	} {
		flightTo(t, row, 50000, 14000)
	}
}

// TestHitting: P9.1, step 4: where the shot overlaps the other player's box behind its move, and where it only touches it or was in it ahead of that.
func TestHitting(t *testing.T) {
	const x, y = 50000, 14000
	for _, row := range []flight{
		{"into the middle", api.Shot{X: x + 1792, Y: y - 500, VY: 2000, Life: 9}, true, false},
		{"by 1 into the left side", api.Shot{X: x - 511 - 2048, Y: y, VX: 2048, Life: 9}, true, false},
		{"to the left side", api.Shot{X: x - 512 - 2048, Y: y, VX: 2048, Life: 9}, false, false},
		{"by 1 into the right side", api.Shot{X: x + 4095 + 2048, Y: y, VX: -2048, Life: 9}, true, false},
		{"to the right side", api.Shot{X: x + 4096 + 2048, Y: y, VX: -2048, Life: 9}, false, false},
		{"by 1 into the upper side", api.Shot{X: x, Y: y - 511 - 2048, VY: 2048, Life: 9}, true, false},
		{"to the upper side", api.Shot{X: x, Y: y - 512 - 2048, VY: 2048, Life: 9}, false, false},
		{"by 1 into the lower side", api.Shot{X: x, Y: y + 4095 + 2048, VY: -2048, Life: 9}, true, false},
		{"to the lower side", api.Shot{X: x, Y: y + 4096 + 2048, VY: -2048, Life: 9}, false, false},
		{"by 1 into a corner", api.Shot{X: x - 510, Y: y - 510, VX: -1, VY: -1, Life: 9}, true, false},
		{"to a corner", api.Shot{X: x - 511, Y: y - 511, VX: -1, VY: -1, Life: 9}, false, false},
		{"out of the box", api.Shot{X: x + 3000, Y: y, VX: 2048, Life: 9}, false, false},
		{"through the box's corner", api.Shot{X: x - 512, Y: y + 1000, VX: 2048, VY: -2048, Life: 9}, false, false},
		{"at rest in the box", api.Shot{X: x + 9, Y: y + 9, Life: 9}, true, false},
	} {
		flightTo(t, row, x, y)
	}
}

// TestOwnShot: P9.1, step 4: its owner is not hit.
func TestOwnShot(t *testing.T) {
	for i := range 2 {
		s := apart(0)
		s.Shots = []api.Shot{{X: s.Players[i].X, Y: s.Players[i].Y, VX: 9, VY: 8, Owner: uint8(i), Life: 7}}
		want := clone(s)
		want.Frame++
		want.Shots = drifted(s.Shots)
		stepTo(t, fmt.Sprintf("player %d in his own shot", i), s, api.Pair{}, want)
	}
}

// TestHitBehindMove: P9.1, step 4: the other player's box is where he is behind his move.
func TestHitBehindMove(t *testing.T) {
	for i := range 2 {
		for _, into := range []bool{true, false} {
			s := apart(0)
			q := &s.Players[1-i]
			q.Face = 0
			s.Shots = []api.Shot{{X: q.X + 4096 + 63, Y: q.Y, Owner: uint8(i), Life: 7}}
			if !into {
				s.Shots[0].X = q.X - 512 + 64
			}
			want := clone(s)
			want.Frame++
			want.Shots = drifted(s.Shots)
			q = &want.Players[1-i]
			q.X, q.VX = q.X+64, 64
			if into {
				q.Health -= 10
				want.Score[i]++
				want.Shots = nil
			}
			stepTo(t, fmt.Sprintf("player %d's shot, the other one moves, into it: %v", i, into), s, only(1-i, right), want)
		}
	}
}

// TestLife: P9.1, step 4: of every number.
func TestLife(t *testing.T) {
	for life := uint8(1); life <= 40; life++ {
		flightTo(t, flight{fmt.Sprintf("of Life %d", life), api.Shot{X: 9000, Y: 9000, VX: 5, VY: -5, Life: life}, false, life == 1}, 50000, 14000)
	}
}

// TestFirstNamed: P9.1, step 4: where several apply, the first one does.
func TestFirstNamed(t *testing.T) {
	for _, row := range []flight{
		{"out of the arena, in the box", api.Shot{X: 0, Y: 1000, VX: -1, Life: 9}, false, true},
		{"out of the arena, in the box, at its end", api.Shot{X: 0, Y: 1000, VX: -1, Life: 1}, false, true},
		{"out of the arena, above the box, at its end", api.Shot{X: 1000, Y: 0, VY: -511, Life: 1}, false, true},
		{"out of the arena, at its end", api.Shot{X: 65024, Y: 1000, VX: 1, Life: 1}, false, true},
		{"in the box, at its end", api.Shot{X: 0, Y: 1000, Life: 1}, true, false},
		{"beside the box, at its end", api.Shot{X: 4096, Y: 1000, Life: 1}, false, true},
		{"in the box", api.Shot{X: 4095, Y: 1000, Life: 9}, true, false},
	} {
		flightTo(t, row, 0, 0)
	}
}

// TestHealthAndScore: P9.1, step 4: both ends of either.
func TestHealthAndScore(t *testing.T) {
	for i := range 2 {
		for health := uint8(1); health <= 100; health++ {
			for _, score := range []uint16{0, 1, 255, 256, 65534, 65535} {
				s := apart(0)
				q := &s.Players[1-i]
				q.Health = health
				s.Score[i] = score
				s.Shots = []api.Shot{{X: q.X, Y: q.Y, Owner: uint8(i), Life: 9}}
				got := step.Step(s, api.Pair{})
				what := fmt.Sprintf("player %d hits one of Health %d, with Score %d: ", i, health, score)
				left := health - 10
				if health <= 10 {
					left = 100 // he is brought back
				}
				same(t, what+"Health", got.Players[1-i].Health, left)
				same(t, what+"his own", got.Players[i].Health, s.Players[i].Health)
				same(t, what+"Score", got.Score[i], uint16(min(int(score)+1, 65535)))
				same(t, what+"the other's", got.Score[1-i], s.Score[1-i])
				same(t, what+"shots", len(got.Shots), 0)
				same(t, what+"brought back", got.Seed != s.Seed, health <= 10)
			}
		}
	}
}

// TestSeveralShots: P9.1, step 4: in their order, those left keep theirs; a player without health is hit, too.
func TestSeveralShots(t *testing.T) {
	for i := range 2 {
		s := apart(8)
		q := &s.Players[1-i]
		q.Health = 25
		for _, k := range []int{1, 4, 5, 7} {
			s.Shots[k] = api.Shot{X: q.X, Y: q.Y, Owner: uint8(i), Life: uint8(k)}
		}
		s.Shots[2].Life, s.Shots[3].VY = 1, -1001
		s.Score[i] = 65532
		got := step.Step(s, api.Pair{})
		what := fmt.Sprintf("player %d's shots: ", i)
		left := drifted(s.Shots)
		if kept := []api.Shot{left[0], left[6]}; !slices.Equal(got.Shots, kept) {
			t.Errorf("%sleft are %v, not %v", what, got.Shots, kept)
		}
		same(t, what+"Score", got.Score[i], 65535)
		same(t, what+"Health", got.Players[1-i].Health, 100)
		same(t, what+"Seed", got.Seed, s.Seed+drawn)
	}
}

// dying is a state in which those named get Health 0 in the next frame, without moving; the other one rests, too.
func dying(seed uint64, who ...int) api.State {
	s := apart(0)
	s.Seed = seed
	for _, i := range who {
		p := &s.Players[i]
		p.Health = 10
		s.Shots = append(s.Shots, api.Shot{X: p.X, Y: p.Y, Owner: uint8(1 - i), Life: 9})
	}
	return s
}

// back is dying's result, with those named at their places.
func back(s api.State, places map[int][2]int64) api.State {
	s = clone(s)
	s.Frame++
	for _, shot := range s.Shots {
		s.Score[shot.Owner]++
		s.Players[1-shot.Owner].Health = 100
		s.Seed += drawn
	}
	s.Shots = nil
	for i, place := range places {
		s.Players[i].X, s.Players[i].Y = int32(place[0]), int32(place[1])
	}
	return s
}

func place(x, y int64) [2]int64 { return [2]int64{x, y} }

func at(p [2]int64) box { return box{p[0], p[1], 4096} }

// seedWhere is the first seed, from 0 on, whose first two places are as asked.
func seedWhere(asked func(first, second box) bool) uint64 {
	for seed := uint64(0); ; seed++ {
		if asked(at(place(draw(seed))), at(place(draw(seed+drawn)))) {
			return seed
		}
	}
}

// TestOneBack: P9.1, step 5: of many seeds.
func TestOneBack(t *testing.T) {
	r := rand.New(rand.NewSource(5))
	for range 2000 {
		i, seed := r.Intn(2), r.Uint64()
		s := dying(seed, i)
		places := map[int][2]int64{i: place(draw(seed))}
		if at(places[i]).overlaps(player(s.Players[1-i])) {
			places = nil
		}
		stepTo(t, fmt.Sprintf("player %d is brought back by seed %d", i, seed), s, api.Pair{}, back(s, places))
	}
}

// TestBackStopped: P9.1, step 5: with both speeds 0, from a place behind his move, with Face and Cool as they are.
func TestBackStopped(t *testing.T) {
	for i := range 2 {
		s := dying(3, i)
		p := &s.Players[i]
		p.VX, p.VY, p.Cool = 100, 200, 20
		got := step.Step(s, only(i, right|down))
		x, y := draw(3)
		same(t, "who is brought back", got.Players[i], api.Player{X: int32(x), Y: int32(y), Health: 100, Cool: 19, Face: 0})

		q := &s.Players[1-i]
		q.X, q.Y = int32(x), int32(y)
		got = step.Step(s, only(i, right|down))
		same(t, "whose place is taken", got.Players[i], api.Player{X: p.X + 164, Y: p.Y + 264, Health: 100, Cool: 19, Face: 0})
		same(t, "who is there", got.Players[1-i], s.Players[1-i])
		same(t, "the seed", got.Seed, uint64(3+drawn))
	}
}

// TestPlaceTaken: P9.1, step 5: the drawn place overlaps the other player's, by one unit and more, or touches it.
func TestPlaceTaken(t *testing.T) {
	mid := func(first, _ box) bool {
		return first.x > 10000 && first.x < 50000 && first.y > 8000 && first.y < 20000 && !first.overlaps(player(apart(0).Players[0])) && !first.overlaps(player(apart(0).Players[1]))
	}
	seed := seedWhere(mid)
	x, y := draw(seed)
	for i := range 2 {
		for _, row := range []struct {
			dx, dy int32
			taken  bool
		}{
			{0, 0, true}, {4095, 0, true}, {4096, 0, false}, {-4095, 0, true}, {-4096, 0, false}, {0, 4095, true}, {0, 4096, false},
			{0, -4095, true}, {0, -4096, false}, {4095, -4095, true}, {4095, -4096, false}, {-4096, 4095, false}, {-4095, 4095, true},
		} {
			s := dying(seed, i)
			s.Players[1-i].X, s.Players[1-i].Y = int32(x)+row.dx, int32(y)+row.dy
			places := map[int][2]int64{i: place(x, y)}
			if row.taken {
				places = nil
			}
			stepTo(t, fmt.Sprintf("player %d is brought back beside the other one by %d and %d", i, row.dx, row.dy), s, api.Pair{}, back(s, places))
		}
	}
}

// TestBothBack: P9.1, step 5: player 0 first, held against where player 1 was; then player 1, held against where player 0 is by then.
func TestBothBack(t *testing.T) {
	s := apart(0)
	was0, was1 := player(s.Players[0]), player(s.Players[1])
	for what, row := range map[string]struct {
		asked        func(first, second box) bool
		move0, move1 bool // whether players 0 and 1 get new places
	}{
		"with both places free": {func(a, b box) bool { return !a.overlaps(was1) && !b.overlaps(a) && !b.overlaps(was0) }, true, true},
		"player 0's place taken": {func(a, b box) bool {
			return a.overlaps(was1) && !b.overlaps(was0) && !b.overlaps(a)
		}, false, true},
		"player 1's place taken by player 0's new one": {func(a, b box) bool {
			return !a.overlaps(was1) && b.overlaps(a) && !b.overlaps(was0)
		}, true, false},
		"player 1's place where player 0 was": {func(a, b box) bool {
			return !a.overlaps(was1) && !b.overlaps(a) && b.overlaps(was0)
		}, true, true},
		"both places taken":                                     {func(a, b box) bool { return a.overlaps(was1) && b.overlaps(was0) }, false, false},
		"player 1's place on his own old one":                   {func(a, b box) bool { return !a.overlaps(was1) && b.overlaps(was1) && !b.overlaps(a) }, true, true},
		"player 0's place on his own old one":                   {func(a, b box) bool { return a.overlaps(was0) && !b.overlaps(a) }, true, true},
		"player 1's place on the one that player 0 did not get": {func(a, b box) bool { return a.overlaps(was1) && b.overlaps(a) && !b.overlaps(was0) }, false, true},
	} {
		seed := seedWhere(row.asked)
		places := map[int][2]int64{}
		if row.move0 {
			places[0] = place(draw(seed))
		}
		if row.move1 {
			places[1] = place(draw(seed + drawn))
		}
		for _, who := range [][]int{{0, 1}, {1, 0}} {
			s := dying(seed, who...)
			stepTo(t, fmt.Sprintf("both are brought back, %s, seed %d", what, seed), s, api.Pair{}, back(s, places))
		}
	}
}

// TestFrame: P9.1, step 6.
func TestFrame(t *testing.T) {
	for _, n := range []uint64{0, 1, 255, 1<<32 - 1, 1 << 63, math.MaxUint64 - 1, math.MaxUint64} {
		s := apart(2)
		s.Frame = n
		same(t, fmt.Sprintf("the frame after %d", n), step.Step(s, api.Pair{left, fire}).Frame, n+1)
	}
}

// spoils make a state not valid, by one part each.
func spoils() map[string]func(s *api.State) {
	l := map[string]func(s *api.State){
		"9 shots":   func(s *api.State) { s.Shots = apart(9).Shots },
		"100 shots": func(s *api.State) { s.Shots = slices.Repeat(apart(1).Shots, 100) },
	}
	for i := range 2 {
		who := fmt.Sprintf("player %d's ", i)
		for _, n := range []int32{-1025, 1025, math.MinInt32, math.MaxInt32} {
			l[fmt.Sprint(who, "VX ", n)] = func(s *api.State) { s.Players[i].VX = n }
			l[fmt.Sprint(who, "VY ", n)] = func(s *api.State) { s.Players[i].VY = n }
		}
		for _, n := range []int32{-1, 61441, math.MinInt32, math.MaxInt32} {
			l[fmt.Sprint(who, "X ", n)] = func(s *api.State) { s.Players[i].X = n }
			l[fmt.Sprint(who, "Y ", n)] = func(s *api.State) { s.Players[i].Y = n }
		}
		l[who+"Y 28673"] = func(s *api.State) { s.Players[i].Y = 28673 }
		l[who+"Health 0"] = func(s *api.State) { s.Players[i].Health = 0 }
		l[who+"Health 101"] = func(s *api.State) { s.Players[i].Health = 101 }
		l[who+"Cool 31"] = func(s *api.State) { s.Players[i].Cool = 31 }
		l[who+"Face 4"] = func(s *api.State) { s.Players[i].Face = 4 }
		l[who+"Face 255"] = func(s *api.State) { s.Players[i].Face = 255 }
	}
	for _, k := range []int{0, 3, 7} {
		what := fmt.Sprintf("shot %d's ", k)
		l[what+"X -1"] = func(s *api.State) { s.Shots[k].X = -1 }
		l[what+"X 65025"] = func(s *api.State) { s.Shots[k].X = 65025 }
		l[what+"Y -1"] = func(s *api.State) { s.Shots[k].Y = -1 }
		l[what+"Y 32257"] = func(s *api.State) { s.Shots[k].Y = 32257 }
		l[what+"VX 2049"] = func(s *api.State) { s.Shots[k].VX = 2049 }
		l[what+"VX least"] = func(s *api.State) { s.Shots[k].VX = math.MinInt32 }
		l[what+"VY -2049"] = func(s *api.State) { s.Shots[k].VY = -2049 }
		l[what+"Owner 2"] = func(s *api.State) { s.Shots[k].Owner = 2 }
		l[what+"Owner 255"] = func(s *api.State) { s.Shots[k].Owner = 255 }
		l[what+"Life 0"] = func(s *api.State) { s.Shots[k].Life = 0 }
		l[what+"Life 41"] = func(s *api.State) { s.Shots[k].Life = 41 }
	}
	return l
}

// TestStateNotValid: P9.1: the state is unchanged, all of its shots included.
func TestStateNotValid(t *testing.T) {
	for what, spoil := range spoils() {
		s := apart(8)
		s.Players[0].VX, s.Players[1].Cool = 500, 9
		spoil(&s)
		for _, p := range []api.Pair{{}, {right, up}, {fire, fire | left}, {dash, 64}, {255, 255}} {
			stepTo(t, fmt.Sprintf("%s, pair %v", what, p), s, p, s)
		}
	}
	stepTo(t, "the zero value", api.State{}, api.Pair{right, left}, api.State{})
}

// TestInputs: P9.1: every input of either player: a frame's result if it is valid, and the state unchanged if not.
func TestInputs(t *testing.T) {
	s := apart(5)
	s.Players[0].VX, s.Players[1].Cool = 500, 1
	for n := range 256 {
		for i := range 2 {
			for _, others := range []api.Input{none, right, fire | up, 63} {
				p := only(i, api.Input(n))
				p[1-i] = others
				want := s
				if n < 64 {
					want = frame(s, p)
				}
				stepTo(t, fmt.Sprintf("pair %v", p), s, p, want)
			}
		}
	}
}

// TestNewMemory: P9.2: nothing that is done to a result, or to what was handed in, shows in the other one, nor in a second result; spare room behind the shots stays as it is.
func TestNewMemory(t *testing.T) {
	bad := apart(8)
	bad.Players[0].Health = 0
	for what, s := range map[string]api.State{"valid": apart(5), "without shots": apart(0), "full": apart(8), "not valid": bad, "too many": apart(9)} {
		for _, p := range []api.Pair{{}, {fire, fire}, {64, 0}} {
			room := make([]api.Shot, len(s.Shots), len(s.Shots)+5)
			copy(room, s.Shots)
			handed := s
			handed.Shots = room
			got := step.Step(handed, p)
			second := step.Step(handed, p)
			want := clone(got)
			spare := room[:cap(room)]
			for _, shot := range spare[len(room):] {
				same(t, what+": the room behind the shots", shot, api.Shot{})
			}
			for i := range spare {
				spare[i].X += 7
			}
			sameState(t, what+": behind a change of the shots handed in", got, want)
			for i := range got.Shots {
				got.Shots[i].Y += 9
			}
			sameState(t, what+": behind a change of the first result", second, want)
			for i := range spare {
				spare[i].X -= 7
			}
			sameState(t, what+": what was handed in", handed, s)
		}
	}
}

// number is any from low to high, its ends more often than others.
func number(r *rand.Rand, low, high int32) int32 {
	switch r.Intn(6) {
	case 0:
		return low
	case 1:
		return high
	}
	return low + r.Int31n(high-low+1)
}

// anyState is valid; players and shots are often near each other.
func anyState(r *rand.Rand) api.State {
	s := api.State{Frame: r.Uint64(), Seed: r.Uint64(), Score: [2]uint16{uint16(number(r, 65530, 65535)), uint16(number(r, 0, 65535))}}
	near := func(x, far, most int32) int32 { return max(0, min(x+number(r, -far, far), most)) }
	for i := range s.Players {
		p := &s.Players[i]
		p.X, p.Y = number(r, 0, lastX), number(r, 0, lastY)
		if r.Intn(2) == 0 {
			p.X, p.Y = near(s.Players[0].X, 6000, lastX), near(s.Players[0].Y, 6000, lastY)
		}
		p.VX, p.VY = number(r, -1024, 1024), number(r, -1024, 1024)
		p.Health, p.Cool, p.Face = uint8(number(r, 1, 100)), uint8(number(r, 0, 30)), uint8(number(r, 0, 3))
		if r.Intn(2) == 0 {
			p.Health, p.Cool = uint8(number(r, 1, 20)), uint8(number(r, 0, 1))
		}
	}
	for range r.Intn(9) {
		shot := api.Shot{X: number(r, 0, 65024), Y: number(r, 0, 32256), VX: number(r, -2048, 2048), VY: number(r, -2048, 2048), Owner: uint8(r.Intn(2)), Life: uint8(number(r, 1, 40))}
		if r.Intn(2) == 0 {
			p := s.Players[1-shot.Owner]
			shot.X, shot.Y = near(p.X, 3000, 65024), near(p.Y, 3000, 32256)
		}
		s.Shots = append(s.Shots, shot)
	}
	return s
}

func anyPair(r *rand.Rand) api.Pair {
	return api.Pair{api.Input(r.Intn(64)), api.Input(r.Intn(64))}
}

// killed tells who has Health 0 in the frame from s, until he is brought back.
func killed(s api.State, p api.Pair) [2]bool {
	s = fourSteps(s, p)
	return [2]bool{s.Players[0].Health == 0, s.Players[1].Health == 0}
}

// holdFrame holds P9.1 and P9.3 of a frame.
func holdFrame(t *testing.T, s api.State, p api.Pair) api.State {
	t.Helper()
	what := fmt.Sprintf("%v, pair %v", s, p)
	stepTo(t, what, s, p, frame(s, p))
	got := step.Step(s, p)
	same(t, what+": Check", state.Check(got), api.OK)
	same(t, what+": Frame", got.Frame, s.Frame+1)
	if together(got) && !together(s) {
		t.Errorf("%s: the players overlap now: %v", what, got)
	}
	if len(got.Shots) > len(s.Shots)+2 {
		t.Errorf("%s: %d shots", what, len(got.Shots))
	}
	for i, dead := range killed(s, p) {
		before, after := s.Players[i], got.Players[i]
		if dead {
			continue
		}
		if dx, dy := after.X-before.X, after.Y-before.Y; max(dx, -dx, dy, -dy) > api.MaxSpeed {
			t.Errorf("%s: player %d is away by %d and %d", what, i, dx, dy)
		}
	}
	return got
}

// TestAnyFrame: P9.1 and P9.3, of any states, each followed over some frames.
func TestAnyFrame(t *testing.T) {
	r := rand.New(rand.NewSource(11))
	for range 4000 {
		s := anyState(r)
		for range 5 {
			s = holdFrame(t, s, anyPair(r))
		}
	}
}

// TestGames: P9.1 and P9.3, of games from their start on, in which the inputs stay as they are for a while.
func TestGames(t *testing.T) {
	r := rand.New(rand.NewSource(12))
	for seed := range uint64(20) {
		s := state.Start(seed)
		p := anyPair(r)
		for range 600 {
			if r.Intn(8) == 0 {
				p[r.Intn(2)] = api.Input(r.Intn(64))
			}
			s = holdFrame(t, s, p)
		}
		same(t, "frames", s.Frame, 600)
	}
}

// restTo holds P9.4 of both players of s, from whom no one is hit.
func restTo(t *testing.T, what string, s api.State) {
	t.Helper()
	for n := 1; n <= 100; n++ {
		s = step.Step(s, api.Pair{})
		for i, p := range s.Players {
			if n >= 60 && (p.VX != 0 || p.VY != 0) {
				t.Fatalf("%s: player %d has the speeds %d and %d after %d frames", what, i, p.VX, p.VY, n)
			}
		}
	}
}

// TestRest: P9.4: from every speed, far from walls and near them.
func TestRest(t *testing.T) {
	for v := int32(-1024); v <= 1024; v++ {
		s := apart(0)
		s.Players[0].X, s.Players[1].X = 10000, 50000
		s.Players[0].VX, s.Players[0].VY = v, -v
		s.Players[1].VX, s.Players[1].VY = -v, 0
		restTo(t, fmt.Sprintf("speed %d", v), s)
		s.Players[0].X, s.Players[0].Y = 0, lastY
		s.Players[1].X, s.Players[1].VY = 4096+number(rand.New(rand.NewSource(int64(v))), 0, 3000), v
		restTo(t, fmt.Sprintf("speed %d by the walls", v), s)
	}
	r := rand.New(rand.NewSource(13))
	for range 500 {
		s := anyState(r)
		s.Shots = nil
		restTo(t, fmt.Sprint(s), s)
	}
}
