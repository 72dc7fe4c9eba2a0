package power_test

import (
	"fmt"
	"math"
	"math/rand"
	"slices"
	"strings"
	"sync"
	"testing"

	"hindcast/api"
	"hindcast/disk"
	"hindcast/power"
)

// model is a power by the chapter's words, over a disk of its own.
type model struct {
	d      *disk.Disk
	fuse   int
	keep   []int
	writes int
	off    bool
}

// act is a call of one of the methods that are writes; more is what Append appends, or the name that Rename gives.
type act struct{ what, name, more string }

func (a act) String() string {
	if len(a.more) > 40 {
		return fmt.Sprintf("%s(%q, %d bytes)", a.what, a.name, len(a.more))
	}
	return fmt.Sprintf("%s(%q, %q)", a.what, a.name, a.more)
}

// written is what a disk and a power have in common.
type written interface {
	Create(name string) api.Errno
	Append(name, bytes string) api.Errno
	Sync(name string) api.Errno
	Rename(from, to string) api.Errno
	Remove(name string) api.Errno
}

func (a act) of(w written) api.Errno {
	switch a.what {
	case "Create":
		return w.Create(a.name)
	case "Append":
		return w.Append(a.name, a.more)
	case "Sync":
		return w.Sync(a.name)
	case "Rename":
		return w.Rename(a.name, a.more)
	default:
		return w.Remove(a.name)
	}
}

func (m *model) do(a act) api.Errno {
	if m.off {
		return api.ErrDown
	}
	number := m.writes
	m.writes++
	if number != m.fuse {
		return a.of(m.d)
	}
	if isOdd(m.keep) {
		a.of(m.d)
	}
	m.blow()
	return api.ErrDown
}

func (m *model) blow() {
	if !m.off {
		m.off = true
		m.d.Crash(m.keep)
	}
}

// isOdd goes by the last digit that the number is written with, so that it leans on no remainder.
func isOdd(keep []int) bool {
	return len(keep) > 0 && strings.ContainsAny(fmt.Sprint(keep[0])[len(fmt.Sprint(keep[0]))-1:], "13579")
}

func same[T comparable](t *testing.T, what string, got, want T) {
	t.Helper()
	if got != want {
		t.Errorf("%s: %v, not %v", what, got, want)
	}
}

// sameDisk holds all that a disk tells to what another one tells, also of names that it does not have.
func sameDisk(t *testing.T, what string, got, want *disk.Disk) {
	t.Helper()
	names := want.List()
	if l := got.List(); !slices.Equal(l, names) {
		t.Errorf("%s: the names are %q, not %q", what, l, names)
		return
	}
	same(t, what+": Used", got.Used(), want.Used())
	for _, name := range names {
		s, _ := got.Read(name)
		wanted, _ := want.Read(name)
		if s != wanted {
			t.Errorf("%s: %q has %d bytes %.40q, not %d bytes %.40q", what, name, len(s), s, len(wanted), wanted)
		}
		same(t, fmt.Sprintf("%s: what %q has synced", what, name), got.Synced(name), want.Synced(name))
	}
}

// holdTo holds all that a power tells, and its disk, to the model.
func holdTo(t *testing.T, what string, p *power.Power, m *model) {
	t.Helper()
	same(t, what+": Down", p.Down(), m.off)
	same(t, what+": Writes", p.Writes(), m.writes)
	sameDisk(t, what, p.Disk(), m.d)
	names := m.d.List()
	listed := names
	if m.off {
		listed = nil
	}
	if l := p.List(); !slices.Equal(l, listed) {
		t.Errorf("%s: List: %q, not %q", what, l, listed)
	}
	for _, name := range append(names, "gone", "A", "") {
		got, e := p.Read(name)
		want, wanted := m.d.Read(name)
		if m.off {
			want, wanted = "", api.ErrDown
		}
		same(t, fmt.Sprintf("%s: the error of Read(%q)", what, name), e, wanted)
		if got != want {
			t.Errorf("%s: Read(%q): %d bytes %.40q, not %d bytes %.40q", what, name, len(got), got, len(want), want)
		}
	}
}

// do has both do it, and holds the power to the model behind it.
func do(t *testing.T, p *power.Power, m *model, acts ...act) {
	t.Helper()
	for _, a := range acts {
		what := fmt.Sprintf("fuse %d, keep %v, write %d, %v", m.fuse, m.keep, m.writes, a)
		want := m.do(a)
		same(t, what, a.of(p), want)
		holdTo(t, "behind "+what, p, m)
	}
}

// blow is do of Blow.
func blow(t *testing.T, p *power.Power, m *model) {
	t.Helper()
	p.Blow()
	m.blow()
	holdTo(t, fmt.Sprintf("fuse %d, keep %v: behind Blow", m.fuse, m.keep), p, m)
}

// made is a power over a copy of the disk, and its model over another copy.
func made(t *testing.T, d *disk.Disk, fuse int, keep []int) (*power.Power, *model) {
	t.Helper()
	own := d.Copy()
	p := power.New(own, fuse, keep)
	if p == nil {
		t.Fatalf("New of a disk, %d, %v: nil", fuse, keep)
	}
	m := &model{d: d.Copy(), fuse: fuse, keep: slices.Clone(keep)}
	same(t, "Disk", p.Disk(), own)
	holdTo(t, fmt.Sprintf("New of a disk, %d, %v", fuse, keep), p, m)
	return p, m
}

// some is a disk with a file of each kind: b has synced bytes and a tail, d only a tail, a only synced bytes, c none.
func some(t *testing.T) *disk.Disk {
	t.Helper()
	d := disk.New(100)
	for _, a := range []act{{"Create", "d", ""}, {"Create", "b", ""}, {"Create", "a", ""}, {"Create", "c", ""},
		{"Append", "b", "123"}, {"Append", "a", "wxyz"}, {"Sync", "b", ""}, {"Sync", "a", ""},
		{"Append", "d", "hello"}, {"Append", "b", "45678"}} {
		same(t, a.String(), a.of(d), api.OK)
	}
	return d
}

// right are writes that a disk of some's takes, one of each kind, each of which changes it.
var right = []act{{"Create", "e", ""}, {"Append", "b", "90"}, {"Append", "a", "tail"}, {"Sync", "b", ""}, {"Sync", "d", ""}, {"Rename", "b", "a"}, {"Rename", "d", "0"}, {"Remove", "a", ""}, {"Remove", "b", ""}}

// wrong are writes that it answers with an error, and one that does nothing.
var wrong = []act{{"Create", "a", ""}, {"Create", "", ""}, {"Append", "gone", "x"}, {"Append", "a", strings.Repeat("x", 101)}, {"Append", "A", ""}, {"Sync", "gone", ""}, {"Sync", "a/b", ""},
	{"Rename", "gone", "a"}, {"Rename", "a", ""}, {"Rename", "", "a"}, {"Rename", "a", "a"}, {"Remove", "gone", ""}, {"Remove", strings.Repeat("a", 33), ""}}

// lists are lists to keep: with no number, with one that is odd or even, above 0, 0 and below 0, and with many, of which the first alone is odd, or the first alone is even.
var lists = [][]int{nil, {}, {0}, {1}, {2}, {3}, {5}, {-1}, {-2}, {-3}, {-4}, {math.MaxInt}, {math.MaxInt - 1}, {math.MinInt}, {math.MinInt + 1},
	{1, 2}, {2, 1}, {0, 1, 1, 1}, {1, 0, 0, 0}, {-1, -2, -2, -2}, {-2, -1, -1, -1}, {3, 1, 4, 1, 5, 9, 2, 6, 5, 3}, {2, 7, 1, 8, 2, 8, 1, 8, 2, 8}}

// TestExamples holds the rows of the chapter's table.
func TestExamples(t *testing.T) {
	for _, x := range []struct {
		keep []int
		want string
	}{{[]int{1, 2}, "x"}, {[]int{0}, ""}} {
		d := disk.New(100)
		p := power.New(d, 1, x.keep)
		same(t, "Create(a)", p.Create("a"), api.OK)
		same(t, "Append(a, xyz)", p.Append("a", "xyz"), api.ErrDown)
		same(t, "Append(a, w)", p.Append("a", "w"), api.ErrDown)
		s, e := p.Read("a")
		same(t, "Read(a)", s, "")
		same(t, "the error of Read(a)", e, api.ErrDown)
		same(t, "Down", p.Down(), true)
		same(t, "Writes", p.Writes(), 2)
		s, e = d.Read("a")
		same(t, "Read(a) of the disk", s, x.want)
		same(t, "the error of Read(a) of the disk", e, api.OK)
	}

	d := disk.New(100)
	p := power.New(d, -1, []int{1, 2})
	for i, e := range []api.Errno{p.Create("a"), p.Append("a", "xyz"), p.Sync("a"), p.Append("a", "w")} {
		same(t, fmt.Sprintf("call %d", i), e, api.OK)
	}
	p.Blow()
	p.Blow()
	s, _ := d.Read("a")
	same(t, "Read(a) of the disk behind Blow", s, "xyzw")
	same(t, "New(nil, 0, keep)", power.New(nil, 0, []int{1, 2}), nil)
}

// TestNew: P13.1: nil of a nil disk alone, whatever the fuse and the list are; otherwise a power that is on.
func TestNew(t *testing.T) {
	for _, fuse := range []int{math.MinInt, -2, -1, 0, 1, 2, 1000, math.MaxInt} {
		for _, keep := range lists {
			same(t, fmt.Sprintf("New(nil, %d, %v)", fuse, keep), power.New(nil, fuse, keep), nil)
			for _, d := range []*disk.Disk{disk.New(1), some(t)} {
				p, m := made(t, d, fuse, keep)
				same(t, "Down", p.Down(), false)
				same(t, "Writes", p.Writes(), 0)
				sameDisk(t, "New does nothing to the disk", p.Disk(), d)
				blow(t, p, m)
			}
		}
	}
}

// TestNotMadeDisk: P13.1, P13.2: a disk that was made neither by disk.New nor by Copy is not nil; its errors are told, and are writes.
func TestNotMadeDisk(t *testing.T) {
	for _, fuse := range []int{-1, 0, 1, 5, 100} {
		for _, keep := range lists {
			d := new(disk.Disk)
			p := power.New(d, fuse, keep)
			if p == nil {
				t.Fatal("New of a disk that was not made: nil")
			}
			same(t, "Disk", p.Disk(), d)
			m := &model{d: new(disk.Disk), fuse: fuse, keep: keep}
			holdTo(t, "a disk that was not made", p, m)
			do(t, p, m, right...)
			do(t, p, m, wrong...)
			blow(t, p, m)
			do(t, p, m, right...)
			same(t, "Disk behind it", p.Disk(), d)
		}
	}
	p := power.New(new(disk.Disk), 1, nil)
	same(t, "Create ahead of the fuse's write", p.Create("a"), api.ErrNil)
	same(t, "Create as the fuse's write", p.Create("a"), api.ErrDown)
}

// TestNotMade: P13.1: nil, and a power that New did not return, for each method, again and again.
func TestNotMade(t *testing.T) {
	var declared power.Power
	for what, p := range map[string]*power.Power{"nil": nil, "what New returned for nil": power.New(nil, -1, []int{1}), "a declared one": &declared, "a literal": {}, "new": new(power.Power)} {
		for range 3 {
			for _, a := range append(right, wrong...) {
				same(t, what+": "+a.String(), a.of(p), api.ErrNil)
			}
			for _, name := range []string{"a", "", "A", strings.Repeat("a", 33)} {
				s, e := p.Read(name)
				same(t, what+": Read", s, "")
				same(t, what+": the error of Read", e, api.ErrNil)
			}
			same(t, what+": the length of List", len(p.List()), 0)
			same(t, what+": Writes", p.Writes(), 0)
			same(t, what+": Down", p.Down(), true)
			same(t, what+": Disk", p.Disk(), nil)
			p.Blow()
		}
	}
}

// TestKeepCopied: P13.1: what the caller does to the list behind New changes no crash, and no last write; and the power does not change the list.
func TestKeepCopied(t *testing.T) {
	last := act{"Append", "d", "!"}
	for _, blown := range []bool{false, true} {
		for _, keep := range [][]int{{1}, {2}, {1, 2, 3}, {2, 3, 4}, {-1, 5}} {
			room := append(slices.Clone(keep), 77, 78)
			given := room[:len(keep)]
			p, m := made(t, some(t), 1, given)
			do(t, p, m, act{"Append", "b", "more"})
			for i := range room {
				room[i] = room[i]*3 + 1 // an odd one becomes even, and an even one odd
			}
			changed := slices.Clone(room)
			if blown {
				blow(t, p, m)
			}
			do(t, p, m, last)
			same(t, "the list and the room behind it", slices.Equal(room, changed), true)
		}
	}
	keep := []int{1, 2, 3}
	p, m := made(t, some(t), 0, keep)
	do(t, p, m, last)
	same(t, "the list, behind New and a crash", slices.Equal(keep, []int{1, 2, 3}), true)
}

// TestAhead: P13.2, P13.3, P13.4: each method ahead of the fuse's write, and with a fuse that is never come to.
func TestAhead(t *testing.T) {
	for _, fuse := range []int{math.MinInt, -2, -1, 1000, math.MaxInt} {
		for _, keep := range [][]int{nil, {1}, {2}} {
			p, m := made(t, some(t), fuse, keep)
			do(t, p, m, wrong...)
			do(t, p, m, right...)
			do(t, p, m, wrong...)
			same(t, "Down", p.Down(), false)
			same(t, "Writes", p.Writes(), 2*len(wrong)+len(right))
		}
	}
}

// TestFuse: P13.2: each method as the write of the fuse, right and wrong, first and later, with each list to keep; and each method behind it.
func TestFuse(t *testing.T) {
	for _, fuse := range []int{0, 1, 2, 7} {
		for _, keep := range lists {
			for _, last := range append(right, wrong...) {
				p, m := made(t, some(t), fuse, keep)
				for range fuse {
					do(t, p, m, act{"Append", "a", "+"})
				}
				same(t, "Down, ahead of the write of the fuse", p.Down(), false)
				same(t, fmt.Sprintf("%v as the write of the fuse", last), last.of(p), api.ErrDown)
				m.do(last)
				holdTo(t, fmt.Sprintf("behind %v as write %d, keep %v", last, fuse, keep), p, m)
				same(t, "Down, behind the write of the fuse", p.Down(), true)
				same(t, "Writes", p.Writes(), fuse+1)
				for _, a := range append(right, wrong...) {
					same(t, fmt.Sprintf("%v behind the write of the fuse", a), a.of(p), api.ErrDown)
				}
				blow(t, p, m)
			}
		}
	}
}

// TestLastWrite: P13.2: what an odd and what an even first number make of each kind of write, told outright; the lists end with 0, so that b has no more behind a crash than what was synced.
func TestLastWrite(t *testing.T) {
	left := func(last act, keep []int, names, file, want string) {
		t.Helper()
		p, _ := made(t, some(t), 0, keep)
		what := fmt.Sprintf("%v, keep %v", last, keep)
		same(t, what, last.of(p), api.ErrDown)
		same(t, what+": the names", strings.Join(p.Disk().List(), " "), names)
		s, _ := p.Disk().Read(file)
		same(t, what+": "+file, s, want)
	}
	for _, x := range []struct {
		last                    act
		namesDone, namesNotDone string
		file, done, notDone     string
	}{
		{act{"Create", "e", ""}, "a b c d e", "a b c d", "e", "", ""},
		{act{"Append", "a", "7"}, "a b c d", "a b c d", "a", "wxyz7", "wxyz"},
		{act{"Sync", "b", ""}, "a b c d", "a b c d", "b", "12345678", "123"},
		{act{"Rename", "c", "a"}, "a b d", "a b c d", "a", "", "wxyz"},
		{act{"Remove", "a", ""}, "b c d", "a b c d", "a", "", "wxyz"},
	} {
		for _, odd := range []int{1, 3, -1, -3, math.MaxInt, math.MinInt + 1} {
			left(x.last, []int{odd, 0}, x.namesDone, x.file, x.done)
		}
		for _, even := range []int{0, 2, 4, -2, -4, math.MaxInt - 1, math.MinInt} {
			left(x.last, []int{even, 0}, x.namesNotDone, x.file, x.notDone)
		}
		left(x.last, nil, x.namesNotDone, x.file, x.notDone)
		left(x.last, []int{}, x.namesNotDone, x.file, x.notDone)
	}
}

// TestWrites: P13.3: writes are counted whatever they returned, and no other call is one: neither for Writes nor for the fuse.
func TestWrites(t *testing.T) {
	all := append(slices.Clone(wrong), right...)
	for fuse := range len(all) + 2 {
		p, m := made(t, some(t), fuse, []int{fuse})
		for i, a := range all {
			same(t, "Writes", p.Writes(), min(i, fuse+1))
			for range 3 { // none of these is a write
				p.Read("a")
				p.Read("")
				p.List()
				p.Writes()
				p.Down()
				p.Disk()
			}
			same(t, "Writes, behind calls that are none", p.Writes(), min(i, fuse+1))
			same(t, "Down", p.Down(), i > fuse)
			do(t, p, m, a)
		}
		same(t, "Writes, at the end", p.Writes(), min(len(all), fuse+1))
		blow(t, p, m)
		same(t, "Writes, behind Blow", p.Writes(), min(len(all), fuse+1))
		do(t, p, m, all...)
		same(t, "Writes, behind all of it", p.Writes(), min(len(all), fuse+1))
	}
}

// TestBlow: P13.3: ahead of any write, behind some, twice, ahead of and behind the write of the fuse.
func TestBlow(t *testing.T) {
	for _, fuse := range []int{-1, 0, 1, 3, 100} {
		for _, keep := range lists {
			for ahead := range 6 {
				p, m := made(t, some(t), fuse, keep)
				do(t, p, m, right[:ahead]...)
				was := p.Writes()
				blow(t, p, m)
				same(t, "Down behind Blow", p.Down(), true)
				same(t, "Writes behind Blow", p.Writes(), was)
				blow(t, p, m)
				do(t, p, m, right...)
				blow(t, p, m)
				do(t, p, m, wrong...)
				same(t, "Writes behind calls behind Blow", p.Writes(), was)
			}
		}
	}
}

// TestCrashedOnce: P13.3, P13.4: the disk is crashed once, and behind that stays as it was left, also if it got a tail since.
func TestCrashedOnce(t *testing.T) {
	for _, fuse := range []int{-1, 0, 2} {
		for _, keep := range lists {
			p, m := made(t, some(t), fuse, keep)
			do(t, p, m, right[:3]...)
			blow(t, p, m)
			for _, d := range []*disk.Disk{p.Disk(), m.d} { // the disk goes on without this power
				same(t, "Append to the disk itself", d.Append("b", "a tail"), api.OK)
				same(t, "Create on the disk itself", d.Create("f"), api.OK)
				same(t, "Append to the disk itself", d.Append("f", "tail"), api.OK)
			}
			for range 2 {
				blow(t, p, m)
				do(t, p, m, right...)
				do(t, p, m, wrong...)
			}
			s, _ := p.Disk().Read("f")
			same(t, "a tail, behind all of it", s, "tail")
			same(t, "what of it is synced", p.Disk().Synced("f"), 0)
		}
	}
}

// TestDisk: P13.3: it is the very disk, ahead of the fuse's write and behind it; what is done to it itself is no write, and the power tells of it.
func TestDisk(t *testing.T) {
	d := some(t)
	p := power.New(d, 1, []int{1})
	for range 2 {
		same(t, "Disk, ahead", p.Disk(), d)
		same(t, "Create", p.Disk().Create("own"), api.OK)
		same(t, "Append", d.Append("own", "bytes"), api.OK)
		s, e := p.Read("own")
		same(t, "Read of what was appended to the disk itself", s, "bytes")
		same(t, "its error", e, api.OK)
		same(t, "List", strings.Join(p.List(), " "), "a b c d own")
		same(t, "Remove", d.Remove("own"), api.OK)
		same(t, "Writes", p.Writes(), 0)
	}
	p.Sync("d")
	same(t, "Disk, ahead of the fuse's write", p.Disk(), d)
	p.Sync("b")
	same(t, "Down", p.Down(), true)
	same(t, "Disk, behind it", p.Disk(), d)
	same(t, "the disk can be used on", p.Disk().Create("own"), api.OK)
	p.Blow()
	same(t, "Disk, behind Blow", p.Disk(), d)
}

// TestTwoPowers: two powers over one disk: each has its own count, fuse and list, and only its own power goes off; but both tell of the one disk.
func TestTwoPowers(t *testing.T) {
	d, own := some(t), some(t)
	p, q := power.New(d, 2, []int{1}), power.New(d, 1, []int{2})
	mp, mq := &model{d: own, fuse: 2, keep: []int{1}}, &model{d: own, fuse: 1, keep: []int{2}}
	both := func(what string, pw, qw int, pd, qd bool) {
		t.Helper()
		holdTo(t, what+": the first one", p, mp)
		holdTo(t, what+": the other one", q, mq)
		same(t, what+": Writes of the first one", p.Writes(), pw)
		same(t, what+": Writes of the other one", q.Writes(), qw)
		same(t, what+": Down of the first one", p.Down(), pd)
		same(t, what+": Down of the other one", q.Down(), qd)
	}
	do(t, p, mp, act{"Append", "d", " you"})
	do(t, q, mq, act{"Append", "b", "9"})
	both("a write each", 1, 1, false, false)
	do(t, q, mq, act{"Remove", "a", ""}) // the write of its fuse, which is not done
	both("the other one is off", 1, 2, false, true)
	do(t, p, mp, act{"Append", "b", "tail"})
	do(t, q, mq, act{"Append", "b", "nothing"})
	blow(t, q, mq)
	both("the first one goes on", 2, 2, false, true)
	s, _ := d.Read("b")
	same(t, "a tail that no second crash tore", s, "12345tail")
	do(t, p, mp, act{"Create", "e", ""}) // the write of its fuse, which is done
	both("both are off", 3, 2, true, true)
	third := power.New(d, -1, nil)
	same(t, "a third one is on", third.Down(), false)
	same(t, "and writes", third.Create("f"), api.OK)
	same(t, "the names", strings.Join(third.List(), " "), "a b c d e f")
	same(t, "Writes of the third one", third.Writes(), 1)
}

// TestLists: a list that was answered is new memory.
func TestLists(t *testing.T) {
	p, m := made(t, some(t), 3, []int{1})
	l, kept := p.List(), p.List()
	clear(l[:cap(l)])
	holdTo(t, "behind a change of a list", p, m)
	do(t, p, m, right...)
	same(t, "a list, behind changes of the disk", strings.Join(kept, " "), "a b c d")
}

// anyAct is a write of any kind, with names that are there, that are not, and that are none.
func anyAct(r *rand.Rand) act {
	names := []string{"a", "b", "c", "d", "e", "f.1-x", "", "A"}
	whats := []string{"Create", "Create", "Create", "Append", "Append", "Append", "Append", "Append", "Sync", "Sync", "Rename", "Remove"}
	a := act{what: whats[r.Intn(len(whats))], name: names[r.Intn(len(names))]}
	switch a.what {
	case "Rename":
		a.more = names[r.Intn(len(names))]
	case "Append":
		b := make([]byte, r.Intn(12))
		r.Read(b)
		a.more = string(b)
	}
	return a
}

// anyKeep is nil, a list that begins with a small number, or one of any numbers.
func anyKeep(r *rand.Rand) []int {
	keep := make([]int, r.Intn(6))
	for i := range keep {
		keep[i] = r.Intn(20) - 10
		if r.Intn(4) == 0 {
			keep[i] = int(r.Uint64())
		}
	}
	return keep
}

// TestLongRuns: P13.4, P13.5: the same calls with each write as that of the fuse, against a disk without a power.
func TestLongRuns(t *testing.T) {
	r := rand.New(rand.NewSource(1))
	for _, start := range []*disk.Disk{disk.New(1), disk.New(60), disk.New(100000), some(t)} {
		acts := make([]act, 60)
		for i := range acts {
			acts[i] = anyAct(r)
		}
		for fuse := -1; fuse <= len(acts); fuse++ {
			for range 4 {
				fusedRun(t, start, acts, fuse, anyKeep(r))
			}
			if t.Failed() {
				t.Fatalf("a long run with fuse %d", fuse)
			}
		}
	}
}

// fusedRun is a run over two copies of a disk: one has a power with this fuse, one has none.
func fusedRun(t *testing.T, start *disk.Disk, acts []act, fuse int, keep []int) {
	t.Helper()
	d, bare := start.Copy(), start.Copy()
	p := power.New(d, fuse, keep)
	var left *disk.Disk // what the write of the fuse left
	for i, a := range acts {
		switch e := a.of(p); {
		case i == fuse:
			same(t, a.String()+", as the write of the fuse", e, api.ErrDown)
			left = d.Copy()
			holdEnds(t, left, bare, a, keep)
		case left != nil:
			same(t, a.String()+", behind the write of the fuse", e, api.ErrDown)
			sameDisk(t, "behind the write of the fuse, "+a.String(), d, left)
			same(t, "Writes, behind the write of the fuse", p.Writes(), fuse+1)
		default:
			same(t, a.String(), e, a.of(bare))
			holdTo(t, "ahead of the write of the fuse, "+a.String(), p, &model{d: bare, writes: i + 1})
		}
	}
	same(t, "Down, at the end", p.Down(), left != nil)
}

// holdEnds holds P13.5: the disk that is left is the one with the last write, or the one without it, both crashed; and which of them it is, the list's first number tells.
func holdEnds(t *testing.T, left, bare *disk.Disk, last act, keep []int) {
	t.Helper()
	with, without := bare.Copy(), bare.Copy()
	last.of(with)
	with.Crash(keep)
	without.Crash(keep)
	if isOdd(keep) {
		sameDisk(t, fmt.Sprintf("keep %v, with %v as the last write", keep, last), left, with)
	} else {
		sameDisk(t, fmt.Sprintf("keep %v, without %v as the last write", keep, last), left, without)
	}
}

// TestAnyRuns: P13.2, P13.3, P13.4: all methods in any order, with Blow among them, and with writes to the disk itself, held to the model at each step.
func TestAnyRuns(t *testing.T) {
	r := rand.New(rand.NewSource(2))
	for run := range 150 {
		p, m := made(t, some(t), r.Intn(40)-3, anyKeep(r))
		for range 40 {
			switch x := r.Intn(40); {
			case x == 0:
				blow(t, p, m)
			case x < 4:
				a := anyAct(r)
				same(t, a.String()+", of the disk itself", a.of(p.Disk()), a.of(m.d))
				holdTo(t, "behind "+a.String()+", of the disk itself", p, m)
			default:
				do(t, p, m, anyAct(r))
			}
		}
		if t.Failed() {
			t.Fatalf("run %d", run)
		}
	}
}

// TestAsked: P13.3: Writes and Down may be asked while another one writes: the count never falls, and is the last one as soon as the power is off.
func TestAsked(t *testing.T) {
	p := power.New(some(t), 500, []int{1})
	var all sync.WaitGroup
	for range 3 {
		all.Go(func() {
			last := 0
			for range 2000 {
				down, n := p.Down(), p.Writes()
				if n < last || n > 501 || down && n != 501 {
					t.Errorf("Down %v, and Writes %d behind %d", down, n, last)
				}
				last = n
			}
		})
	}
	for range 501 {
		p.Sync("a")
	}
	all.Wait()
	same(t, "Down", p.Down(), true)
	same(t, "Writes", p.Writes(), 501)
}
