package disk_test

import (
	"fmt"
	"math"
	"math/big"
	"math/rand"
	"regexp"
	"slices"
	"strings"
	"testing"

	"hindcast/api"
	"hindcast/disk"
)

var validName = regexp.MustCompile(`\A[a-z0-9.\-]{1,32}\z`)

// modelFile is a file by the chapter's definition: what is synced, and the tail behind it.
type modelFile struct{ name, synced, tail string }

// model is a disk by the chapter's words: files in the order of their making.
type model struct {
	quota int
	files []modelFile
}

func (m *model) find(name string) *modelFile {
	for i := range m.files {
		if m.files[i].name == name {
			return &m.files[i]
		}
	}
	return nil
}

func (m *model) used() int {
	n := 0
	for _, f := range m.files {
		n += len(f.synced + f.tail)
	}
	return n
}

func (m *model) names() []string {
	var l []string
	for _, f := range m.files {
		l = append(l, f.name)
	}
	slices.Sort(l)
	return l
}

func (m *model) read(name string) (string, api.Errno) {
	if !validName.MatchString(name) {
		return "", api.ErrArg
	}
	f := m.find(name)
	if f == nil {
		return "", api.ErrNone
	}
	return f.synced + f.tail, api.OK
}

func (m *model) lose(name string) {
	m.files = slices.DeleteFunc(m.files, func(f modelFile) bool { return f.name == name })
}

func (m *model) crash(keep []int) {
	for i, name := range m.names() {
		number := 0
		if len(keep) != 0 {
			number = keep[i%len(keep)]
		}
		f := m.find(name)
		// Mod of big.Int is the one whose results are never below 0.
		kept := new(big.Int).Mod(big.NewInt(int64(number)), big.NewInt(int64(len(f.tail)+1))).Int64()
		f.synced, f.tail = f.synced+f.tail[:kept], ""
	}
}

func (m *model) copied() *model { return &model{m.quota, slices.Clone(m.files)} }

// act is a call of one of the methods that change a disk; more is what Append appends, or the name that Rename gives.
type act struct{ what, name, more string }

func (a act) String() string {
	if a.what == "Append" && len(a.more) > 40 {
		return fmt.Sprintf("Append(%q, %d bytes)", a.name, len(a.more))
	}
	return fmt.Sprintf("%s(%q, %q)", a.what, a.name, a.more)
}

func (a act) of(d *disk.Disk) api.Errno {
	switch a.what {
	case "Create":
		return d.Create(a.name)
	case "Append":
		return d.Append(a.name, a.more)
	case "Sync":
		return d.Sync(a.name)
	case "Rename":
		return d.Rename(a.name, a.more)
	default:
		return d.Remove(a.name)
	}
}

func (m *model) do(a act) api.Errno {
	f := m.find(a.name)
	switch {
	case !validName.MatchString(a.name) || a.what == "Rename" && !validName.MatchString(a.more):
		return api.ErrArg
	case a.what == "Create" && f != nil:
		return api.ErrThere
	case a.what == "Create" && len(m.files) == 64:
		return api.ErrFull
	case a.what == "Create":
		m.files = append(m.files, modelFile{name: a.name})
	case f == nil:
		return api.ErrNone
	case a.what == "Append" && (len(f.synced+f.tail+a.more) > 65536 || m.used()+len(a.more) > m.quota):
		return api.ErrFull
	case a.what == "Append":
		f.tail += a.more
	case a.what == "Sync":
		f.synced, f.tail = f.synced+f.tail, ""
	case a.what == "Remove":
		m.lose(a.name)
	case a.name != a.more:
		renamed := *f
		renamed.name = a.more
		m.lose(a.name)
		m.lose(a.more)
		m.files = append(m.files, renamed)
	}
	return api.OK
}

func same[T comparable](t *testing.T, what string, got, want T) {
	t.Helper()
	if got != want {
		t.Errorf("%s: %v, not %v", what, got, want)
	}
}

// sameText tells no more of long texts than where they part.
func sameText(t *testing.T, what, got, want string) {
	t.Helper()
	if got == want {
		return
	}
	at := 0
	for at < min(len(got), len(want)) && got[at] == want[at] {
		at++
	}
	t.Errorf("%s: %d bytes, not %d, and other ones from byte %d on", what, len(got), len(want), at)
}

// holdTo holds all that a disk tells to what the model tells, also of names that it does not have.
func holdTo(t *testing.T, what string, d *disk.Disk, m *model) {
	t.Helper()
	names := m.names()
	if l := d.List(); !slices.Equal(l, names) {
		t.Fatalf("%s: List: %q, not %q", what, l, names)
	}
	same(t, what+": Used", d.Used(), m.used())
	for _, name := range append(names, "gone", "a", "b", "A", "") {
		got, e := d.Read(name)
		want, wanted := m.read(name)
		same(t, fmt.Sprintf("%s: the error of Read(%q)", what, name), e, wanted)
		sameText(t, fmt.Sprintf("%s: Read(%q)", what, name), got, want)
		synced := 0
		if f := m.find(name); f != nil {
			synced = len(f.synced)
		}
		same(t, fmt.Sprintf("%s: Synced(%q)", what, name), d.Synced(name), synced)
	}
}

// do has both do it, and holds the disk to the model behind it.
func do(t *testing.T, d *disk.Disk, m *model, acts ...act) {
	t.Helper()
	for _, a := range acts {
		want := m.do(a)
		same(t, a.String(), a.of(d), want)
		holdTo(t, "behind "+a.String(), d, m)
	}
}

// crash is do of a crash.
func crash(t *testing.T, d *disk.Disk, m *model, keep []int) {
	t.Helper()
	d.Crash(keep)
	m.crash(keep)
	holdTo(t, fmt.Sprintf("behind Crash(%v)", keep), d, m)
}

func empty(t *testing.T, quota int) (*disk.Disk, *model) {
	t.Helper()
	d := disk.New(quota)
	if d == nil {
		t.Fatalf("New(%d): nil", quota)
	}
	return d, &model{quota: quota}
}

// some is a disk with a file of each kind, made in another order than that of their names: b has synced bytes and a tail, d only a tail, a only synced bytes, c none.
func some(t *testing.T) (*disk.Disk, *model) {
	t.Helper()
	d, m := empty(t, 100)
	do(t, d, m, act{"Create", "d", ""}, act{"Create", "b", ""}, act{"Create", "a", ""}, act{"Create", "c", ""},
		act{"Append", "b", "123"}, act{"Append", "a", "wxyz"}, act{"Sync", "b", ""}, act{"Sync", "a", ""},
		act{"Append", "d", "hello"}, act{"Append", "b", "45678"})
	return d, m
}

// full is a disk of 64 files, f00 to f63, with a byte each, synced in every other one.
func full(t *testing.T, quota int) (*disk.Disk, *model) {
	t.Helper()
	d, m := empty(t, quota)
	for i := range 64 {
		name := fmt.Sprintf("f%02d", i)
		do(t, d, m, act{"Create", name, ""}, act{"Append", name, "x"})
		if i%2 == 0 {
			do(t, d, m, act{"Sync", name, ""})
		}
	}
	return d, m
}

// TestExamples holds the rows of the chapter's table.
func TestExamples(t *testing.T) {
	example := func() *disk.Disk {
		d := disk.New(10)
		for i, e := range []api.Errno{d.Create("a"), d.Append("a", "123"), d.Sync("a"), d.Append("a", "45")} {
			same(t, fmt.Sprintf("call %d", i), e, api.OK)
		}
		return d
	}
	reads := func(what string, d *disk.Disk, want string, synced int) {
		got, e := d.Read("a")
		same(t, what+": the error of Read(a)", e, api.OK)
		same(t, what+": Read(a)", got, want)
		same(t, what+": Synced(a)", d.Synced("a"), synced)
	}
	reads("without a crash", example(), "12345", 3)
	for _, x := range []struct {
		keep []int
		want string
	}{{[]int{1}, "1234"}, {[]int{-1}, "12345"}, {[]int{3}, "123"}, {[]int{}, "123"}} {
		d := example()
		d.Crash(x.keep)
		reads(fmt.Sprintf("behind Crash(%v)", x.keep), d, x.want, len(x.want))
	}

	d := example()
	same(t, "Append(a, 6 bytes)", d.Append("a", "678901"), api.ErrFull)
	same(t, "Append(b, x)", d.Append("b", "x"), api.ErrNone)
	same(t, "Create(A)", d.Create("A"), api.ErrArg)
	same(t, "Create of the empty string", d.Create(""), api.ErrArg)
	same(t, "Create(a)", d.Create("a"), api.ErrThere)
	same(t, "Rename(a, b)", d.Rename("a", "b"), api.OK)
	same(t, "List", strings.Join(d.List(), " "), "b")
	same(t, "Rename(a, c)", d.Rename("a", "c"), api.ErrNone)
	same(t, "Rename(b, b)", d.Rename("b", "b"), api.OK)
	same(t, "List behind it", strings.Join(d.List(), " "), "b")
}

// TestNew: P12.1: which quotas may be, and that such a disk has no files.
func TestNew(t *testing.T) {
	for _, quota := range []int{math.MinInt, math.MinInt32, -1048576, -1, 0, 1048577, 1 << 21, math.MaxInt32, math.MaxInt} {
		same(t, fmt.Sprintf("New(%d)", quota), disk.New(quota), nil)
	}
	for _, quota := range []int{1, 2, 10, 65535, 65536, 65537, 1048575, 1048576} {
		d, m := empty(t, quota)
		holdTo(t, fmt.Sprintf("New(%d)", quota), d, m)
		other, _ := empty(t, quota)
		d.Create("a")
		holdTo(t, "another new disk", other, m)
	}
}

// TestNotMade: P12.1, P12.4, P12.5: nil, and a disk that was made neither by New nor by Copy, for each method; ErrNil is told of ahead of names that are none.
func TestNotMade(t *testing.T) {
	var declared disk.Disk
	for what, d := range map[string]*disk.Disk{"nil": nil, "a declared one": &declared, "a literal": {}, "new": new(disk.Disk)} {
		for range 2 {
			for _, name := range []string{"a", "", "A", strings.Repeat("a", 33)} {
				for _, a := range []act{{"Create", name, ""}, {"Append", name, ""}, {"Append", name, "x"}, {"Sync", name, ""}, {"Rename", name, name}, {"Rename", name, "b"}, {"Rename", "b", name}, {"Remove", name, ""}} {
					same(t, what+": "+a.String(), a.of(d), api.ErrNil)
				}
				s, e := d.Read(name)
				same(t, what+": Read", s, "")
				same(t, what+": the error of Read", e, api.ErrNil)
				same(t, what+": Synced", d.Synced(name), 0)
			}
			same(t, what+": the length of List", len(d.List()), 0)
			same(t, what+": Used", d.Used(), 0)
			same(t, what+": Copy", d.Copy(), nil)
			d.Crash(nil)
			d.Crash([]int{1, 2})
		}
	}
}

// TestNames: P12.1: every length about the bounds, and every byte, at each place of a name, for each method.
func TestNames(t *testing.T) {
	names := []string{"", ".", "-", "..", "0", "z", strings.Repeat("m", 31), strings.Repeat("m", 32), strings.Repeat("m", 33), strings.Repeat("m", 64), strings.Repeat("m", 1<<16), "s0000000000000001.new", "a b", "a\x00", "é", "\u017f", "name\n"}
	for b := range 256 {
		c := string([]byte{byte(b)})
		names = append(names, c, c+"ab", "a"+c+"b", "ab"+c, strings.Repeat("a", 31)+c, c+strings.Repeat("9", 31))
	}
	for _, name := range names {
		d, m := empty(t, 10)
		do(t, d, m, act{"Remove", name, ""}, act{"Sync", name, ""}, act{"Rename", name, name}, act{"Append", name, "x"},
			act{"Create", name, ""}, act{"Append", name, "x"}, act{"Sync", name, ""}, act{"Rename", name, "b"},
			act{"Create", "b", ""}, act{"Rename", "b", name}, act{"Rename", name, name})
		got, e := d.Read(name)
		want, wanted := m.read(name)
		same(t, fmt.Sprintf("Read(%q)", name), got, want)
		same(t, fmt.Sprintf("the error of Read(%q)", name), e, wanted)
		do(t, d, m, act{"Remove", name, ""}, act{"Remove", "b", ""})
	}
}

// TestErrArgFirst: P12.1: it is told of ahead of the other errors, and of either name of Rename; nothing is done.
func TestErrArgFirst(t *testing.T) {
	for _, made := range []func(*testing.T) (*disk.Disk, *model){some, func(t *testing.T) (*disk.Disk, *model) { return full(t, 64) }} {
		d, m := made(t)
		there, long := m.names()[0], strings.Repeat("x", 1<<17)
		for _, bad := range []string{"", "A", strings.Repeat("a", 33), "a/b"} {
			for _, a := range []act{{"Create", bad, ""}, {"Append", bad, ""}, {"Append", bad, long}, {"Sync", bad, ""}, {"Remove", bad, ""},
				{"Rename", bad, there}, {"Rename", there, bad}, {"Rename", bad, "gone"}, {"Rename", "gone", bad}, {"Rename", bad, bad}, {"Rename", bad, "B"}} {
				same(t, a.String(), a.of(d), api.ErrArg)
				holdTo(t, "behind "+a.String(), d, m)
			}
			s, e := d.Read(bad)
			same(t, "Read of no name", s, "")
			same(t, "the error of Read of no name", e, api.ErrArg)
			same(t, "Synced of no name", d.Synced(bad), 0)
		}
	}
}

// TestOtherErrorsOrder: P12.2: ErrThere ahead of ErrFull, and ErrNone ahead of ErrFull; nothing is done.
func TestOtherErrorsOrder(t *testing.T) {
	d, m := full(t, 64)
	for _, x := range []struct {
		a    act
		want api.Errno
	}{
		{act{"Create", "f07", ""}, api.ErrThere},
		{act{"Create", "g", ""}, api.ErrFull},
		{act{"Append", "g", "x"}, api.ErrNone},
		{act{"Append", "g", strings.Repeat("x", 1<<17)}, api.ErrNone},
		{act{"Append", "g", ""}, api.ErrNone},
		{act{"Append", "f07", "x"}, api.ErrFull},
		{act{"Append", "f07", ""}, api.OK},
		{act{"Sync", "g", ""}, api.ErrNone},
		{act{"Remove", "g", ""}, api.ErrNone},
		{act{"Rename", "g", "f07"}, api.ErrNone},
		{act{"Rename", "g", "h"}, api.ErrNone},
		{act{"Rename", "g", "g"}, api.ErrNone},
	} {
		same(t, x.a.String(), x.a.of(d), x.want)
		holdTo(t, "behind "+x.a.String(), d, m)
	}
}

// TestCreate: P12.2: up to the 64th file and beyond, and again behind a Remove, a Rename to another file's name, and one to a new name.
func TestCreate(t *testing.T) {
	d, m := full(t, 100)
	same(t, "files", len(d.List()), 64)
	same(t, "Create of the 65th file", d.Create("g"), api.ErrFull)
	holdTo(t, "behind it", d, m)
	do(t, d, m, act{"Create", "f00", ""}, act{"Create", "f63", ""})
	for i, room := range []act{{"Remove", "f10", ""}, {"Rename", "f11", "f12"}, {"Remove", "g0", ""}} {
		do(t, d, m, room)
		same(t, "files", len(d.List()), 63)
		next := fmt.Sprintf("g%d", i)
		same(t, "Create of the 64th file", d.Create(next), api.OK)
		m.do(act{"Create", next, ""})
		holdTo(t, "behind it", d, m)
		do(t, d, m, act{"Create", "h", ""}, act{"Create", next, ""})
		same(t, "files", len(d.List()), 64)
	}
	do(t, d, m, act{"Rename", "g1", "h"}, act{"Create", "g1", ""}, act{"Create", "h", ""})
	crash(t, d, m, []int{0})
	do(t, d, m, act{"Create", "g", ""})
}

// TestAppendToFile: P12.2: up to 65536 bytes of a file exactly, at once and bit by bit, and one more.
func TestAppendToFile(t *testing.T) {
	for _, at := range []int{0, 1, 30000, 65535, 65536} {
		d, m := empty(t, 1<<20)
		do(t, d, m, act{"Create", "a", ""}, act{"Create", "b", ""}, act{"Append", "b", strings.Repeat("b", 65536)})
		do(t, d, m, act{"Append", "a", strings.Repeat("x", at)}, act{"Sync", "a", ""})
		do(t, d, m, act{"Append", "a", strings.Repeat("y", 65537-at)}, act{"Append", "a", strings.Repeat("y", 1<<20)})
		same(t, "bytes behind what was too many", d.Used(), 65536+at)
		do(t, d, m, act{"Append", "a", strings.Repeat("y", 65536-at)})
		same(t, "bytes behind what was just right", d.Used(), 2*65536)
		same(t, "synced", d.Synced("a"), at)
		do(t, d, m, act{"Append", "a", ""}, act{"Append", "a", "z"}, act{"Sync", "a", ""}, act{"Append", "a", "z"}, act{"Append", "a", ""})
	}
	d, m := empty(t, 1<<20)
	do(t, d, m, act{"Create", "a", ""})
	var all []byte
	for i := range 65536 {
		all = append(all, byte(i%251))
		same(t, "Append of a byte", d.Append("a", string(all[i:])), api.OK)
	}
	m.do(act{"Append", "a", string(all)})
	holdTo(t, "behind 65536 bytes, one by one", d, m)
	do(t, d, m, act{"Append", "a", "x"})
}

// TestAppendUpToQuota: P12.2: up to the quota exactly and one more, to a file and over several, and again behind a Remove, a Rename and a crash that made room.
func TestAppendUpToQuota(t *testing.T) {
	for _, quota := range []int{1, 2, 9, 100, 65535, 65536} {
		d, m := empty(t, quota)
		do(t, d, m, act{"Create", "a", ""}, act{"Append", "a", strings.Repeat("x", quota+1)}, act{"Append", "a", strings.Repeat("x", quota)}, act{"Append", "a", ""}, act{"Append", "a", "y"})
		same(t, "Used", d.Used(), quota)
		do(t, d, m, act{"Create", "b", ""}, act{"Append", "b", "y"}, act{"Append", "b", ""})
		crash(t, d, m, []int{quota - 1})
		same(t, "Used behind a crash", d.Used(), quota-1)
		do(t, d, m, act{"Append", "b", "yy"}, act{"Append", "b", "y"}, act{"Append", "a", "y"}, act{"Rename", "b", "a"}, act{"Append", "a", strings.Repeat("z", quota)}, act{"Append", "a", strings.Repeat("z", quota-1)})
		do(t, d, m, act{"Remove", "a", ""}, act{"Create", "c", ""}, act{"Append", "c", strings.Repeat("z", quota)})
		same(t, "Used in the end", d.Used(), quota)
	}
	for _, quota := range []int{100, 65537, 3*65536 - 1, 1<<20 - 1, 1 << 20} {
		overSeveral(t, quota)
	}
}

// overSeveral fills a disk by many files.
func overSeveral(t *testing.T, quota int) {
	d, m := empty(t, quota)
	part := min(65536, quota/4+1)
	for i := range 20 {
		name := fmt.Sprintf("f%d", i)
		do(t, d, m, act{"Create", name, ""}, act{"Append", name, strings.Repeat("x", part)}, act{"Append", name, strings.Repeat("x", min(part, max(0, quota-m.used())))}, act{"Sync", name, ""})
	}
	same(t, "Used", d.Used(), quota)
	do(t, d, m, act{"Append", "f19", "x"}, act{"Remove", "f1", ""}, act{"Append", "f19", strings.Repeat("y", part+1)}, act{"Append", "f19", strings.Repeat("y", part)}, act{"Append", "f19", "y"})
	crash(t, d, m, []int{0})
	do(t, d, m, act{"Append", "f18", strings.Repeat("y", part)}, act{"Append", "f18", "y"})
	same(t, "Used in the end", d.Used(), quota)
}

// TestBytes: P12.2, P12.4: every byte may be in a file, and what is no text as well.
func TestBytes(t *testing.T) {
	d, m := empty(t, 2000)
	do(t, d, m, act{"Create", "a", ""})
	for i := range 256 {
		do(t, d, m, act{"Append", "a", string([]byte{byte(i), 0, 255})})
	}
	do(t, d, m, act{"Sync", "a", ""}, act{"Append", "a", "\x00\xff"})
	crash(t, d, m, []int{1})
}

// TestSync: P12.2: of a file without bytes, twice, and of one file of several.
func TestSync(t *testing.T) {
	d, m := some(t)
	do(t, d, m, act{"Sync", "c", ""}, act{"Sync", "c", ""}, act{"Sync", "b", ""}, act{"Sync", "b", ""})
	same(t, "Synced(b)", d.Synced("b"), 8)
	same(t, "Synced(d)", d.Synced("d"), 0)
	do(t, d, m, act{"Append", "c", "x"}, act{"Sync", "d", ""})
	crash(t, d, m, nil)
	got, _ := d.Read("c")
	same(t, "what was appended behind a Sync", got, "")
}

// TestRename: P12.3: of each kind of file to each kind, to a name that is not there, and of none, with what is synced, what is tail, and the space behind it.
func TestRename(t *testing.T) {
	for _, from := range []string{"a", "b", "c", "d", "gone", "none"} {
		for _, to := range []string{"a", "b", "c", "d", "gone", "zz"} {
			d, m := some(t)
			used, synced := d.Used(), d.Synced(from)
			bytes, e := d.Read(from)
			lost, _ := d.Read(to)
			if from == to {
				lost = ""
			}
			same(t, "Rename("+from+", "+to+")", d.Rename(from, to), e)
			m.do(act{"Rename", from, to})
			holdTo(t, "behind Rename("+from+", "+to+")", d, m)
			if e == api.OK {
				got, _ := d.Read(to)
				same(t, "what is read behind it", got, bytes)
				same(t, "what is synced behind it", d.Synced(to), synced)
				same(t, "Used behind it", d.Used(), used-len(lost))
			}
			again := d.Copy()
			crash(t, again, m.copied(), []int{2})
			do(t, d, m, act{"Append", to, "new"}, act{"Append", from, "old"}, act{"Create", from, ""}, act{"Append", from, "older"}, act{"Sync", from, ""})
			crash(t, d, m, []int{1})
		}
	}
}

// TestRemove: P12.2: of each kind of file; a file of that name made anew has nothing of the old one.
func TestRemove(t *testing.T) {
	for _, name := range []string{"a", "b", "c", "d"} {
		d, m := some(t)
		s, _ := d.Read(name)
		used := d.Used()
		do(t, d, m, act{"Remove", name, ""}, act{"Remove", name, ""}, act{"Sync", name, ""})
		same(t, "Used behind Remove("+name+")", d.Used(), used-len(s))
		do(t, d, m, act{"Create", name, ""}, act{"Append", name, "zz"})
		crash(t, d, m, []int{1})
		got, _ := d.Read(name)
		same(t, name+" made anew, behind a crash", got, "z")
	}
}

// TestCrash: P12.5: with all kinds of lists, of disks with no file, one, four and 64.
func TestCrash(t *testing.T) {
	disks := []func(*testing.T) (*disk.Disk, *model){
		func(t *testing.T) (*disk.Disk, *model) { return empty(t, 10) },
		func(t *testing.T) (*disk.Disk, *model) {
			d, m := empty(t, 10)
			do(t, d, m, act{"Create", "a", ""}, act{"Append", "a", "123"}, act{"Sync", "a", ""}, act{"Append", "a", "45"})
			return d, m
		},
		some,
		func(t *testing.T) (*disk.Disk, *model) { return full(t, 64) },
	}
	lists := [][]int{nil, {}, {1, 2}, {0, 1}, {5, 1, 1}, {3, 2, 1, 0}, {0, 4, 0, 2}, {-1, -2, -3, -4}, {9, 8, 7, 6, 5, 4}, {0, 1, 2, 3, 4, 5, 6}, {math.MinInt, math.MaxInt}, {math.MaxInt, math.MinInt, math.MinInt}}
	for number := -14; number <= 14; number++ { // tails are of 0, 1, 2 and 5 bytes: 0, the length, one more, and all the way round
		lists = append(lists, []int{number}, []int{number, number + 1, number + 2})
	}
	for _, number := range []int{math.MinInt, math.MinInt + 1, math.MinInt32, math.MaxInt32, math.MaxInt - 1, math.MaxInt} {
		lists = append(lists, []int{number})
	}
	many := make([]int, 200)
	for i := range many {
		many[i] = i*7 - 50
	}
	for _, n := range []int{63, 64, 65, 200} {
		lists = append(lists, many[:n])
	}
	for _, made := range disks {
		for _, keep := range lists {
			d, m := made(t)
			before := slices.Clone(keep)
			crash(t, d, m, keep)
			same(t, "the list behind Crash", slices.Equal(keep, before), true)
			for _, again := range [][]int{nil, keep, {3}, {-1}} { // directly behind a crash: nothing is done
				d.Crash(again)
				holdTo(t, fmt.Sprintf("behind Crash(%v), directly behind one", again), d, m)
			}
		}
	}
}

// TestCrashOrder: P12.5: the numbers go by the order of the names, and not by that of the making, nor by that of lengths or of numbers in names.
func TestCrashOrder(t *testing.T) {
	sorted := []string{"-", ".", "10", "2", "a", "a.", "a0", "aa", "b", "z"}
	for _, order := range [][]int{{9, 8, 7, 6, 5, 4, 3, 2, 1, 0}, {0, 1, 2, 3, 4, 5, 6, 7, 8, 9}, {4, 0, 9, 2, 7, 1, 3, 8, 6, 5}} {
		d, m := empty(t, 1000)
		for _, i := range order {
			do(t, d, m, act{"Create", sorted[i], ""}, act{"Append", sorted[i], "0123456789"})
		}
		crash(t, d, m, []int{0, 1, 2, 3, 4, 5, 6, 7, 8, 9})
		same(t, "List", strings.Join(d.List(), " "), strings.Join(sorted, " "))
		for i, name := range sorted {
			got, _ := d.Read(name)
			same(t, name, got, "0123456789"[:i])
		}
	}
	d, m := some(t)
	do(t, d, m, act{"Rename", "d", "0"}, act{"Create", "e", ""}, act{"Append", "e", "12345"}) // now 0 is the first one, and a, b, c, e are behind it
	crash(t, d, m, []int{3, 0, 1, 0, 4})
	for name, want := range map[string]string{"0": "hel", "a": "wxyz", "b": "1234", "c": "", "e": "1234"} {
		got, _ := d.Read(name)
		same(t, name, got, want)
	}
}

// TestCopy: P12.5, P12.8: of a disk without files, with tails, and of a copy; what is done to either does nothing to the other one, in either order.
func TestCopy(t *testing.T) {
	acts := []act{{"Create", "e", ""}, {"Append", "b", "more"}, {"Append", "d", "x"}, {"Sync", "d", ""}, {"Rename", "b", "a"}, {"Rename", "d", "g"}, {"Remove", "c", ""}, {"Append", "a", "!"}, {"Create", "b", ""}, {"Remove", "gone", ""}}
	for _, made := range []func(*testing.T) (*disk.Disk, *model){some, func(t *testing.T) (*disk.Disk, *model) { return empty(t, 5) }, func(t *testing.T) (*disk.Disk, *model) { return full(t, 100) }} {
		for first := range 3 {
			d, m := made(t)
			c := d.Copy()
			all := []*disk.Disk{d, c, c.Copy()}
			models := []*model{m, m.copied(), m.copied()}
			for turn := range all {
				i := (first + turn) % len(all)
				holdTo(t, "a copy", all[i], models[i])
				do(t, all[i], models[i], acts...)
				crash(t, all[i], models[i], []int{turn, 1})
				do(t, all[i], models[i], acts...)
				for j := range all {
					holdTo(t, fmt.Sprintf("disk %d, behind what was done to disk %d", j, i), all[j], models[j])
				}
			}
		}
	}
}

// TestCopyTurnAbout: P12.8: a disk and its copy append, crash and append again, turn about: no room behind their bytes is shared.
func TestCopyTurnAbout(t *testing.T) {
	d, m := some(t)
	d.Append("d", "spare") // so that there may be room behind the bytes
	d.Crash([]int{0})
	m.crash(nil)
	c, cm := d.Copy(), m.copied()
	for i := range 6 {
		word := fmt.Sprint("d", i)
		do(t, d, m, act{"Append", "d", word}, act{"Append", "b", word})
		do(t, c, cm, act{"Append", "d", "copy"}, act{"Append", "b", "copy"})
		holdTo(t, "the disk", d, m)
		if i%2 == 1 {
			crash(t, c, cm, []int{3})
			holdTo(t, "the disk behind the copy's crash", d, m)
			crash(t, d, m, []int{1})
			holdTo(t, "the copy behind the disk's crash", c, cm)
		}
	}
}

// TestCopyQuota: P12.5: a copy has the disk's quota, and its bound of files.
func TestCopyQuota(t *testing.T) {
	for _, quota := range []int{1, 7, 65537, 1 << 20} {
		d, m := empty(t, quota)
		c := d.Copy()
		do(t, c, m, act{"Create", "a", ""}, act{"Create", "b", ""}, act{"Append", "a", strings.Repeat("x", min(quota, 65536))}, act{"Append", "b", strings.Repeat("x", max(0, min(quota-65536, 65536)))}, act{"Append", "b", "x"})
		holdTo(t, "the disk", d, &model{quota: quota})
	}
	d, m := full(t, 100)
	do(t, d.Copy(), m.copied(), act{"Create", "g", ""})
}

// TestLists: P12.4, P12.8: what is done to a list that was answered, or handed in, changes no disk, and a disk changes neither.
func TestLists(t *testing.T) {
	d, m := some(t)
	l, other := d.List(), d.List()
	clear(l[:cap(l)])
	holdTo(t, "behind a change of a list", d, m)
	l = append(other[:1], "x", "y", "z", "w")
	slices.Reverse(l)
	holdTo(t, "behind a change of another list", d, m)
	kept := d.List()
	do(t, d, m, act{"Rename", "a", "zz"}, act{"Remove", "b", ""}, act{"Create", "0", ""})
	same(t, "a list, behind changes of the disk", strings.Join(kept, " "), "a b c d")

	d, m = some(t)
	room := []int{2, 3, 77, 78}
	keep := room[:2]
	crash(t, d, m, keep)
	same(t, "the list and the room behind it", slices.Equal(room, []int{2, 3, 77, 78}), true)
	do(t, d, m, act{"Append", "a", "12345"}, act{"Append", "b", "12345"})
	clear(room)
	holdTo(t, "behind a change of the list", d, m)
	crash(t, d, m, nil)
}

// TestReadKept: P12.4: what was read stays as it was, whatever is done to the disk.
func TestReadKept(t *testing.T) {
	d, m := some(t)
	b, _ := d.Read("b")
	do(t, d, m, act{"Append", "b", "9"})
	crash(t, d, m, []int{1})
	do(t, d, m, act{"Append", "b", "other bytes"}, act{"Append", "a", "other"}, act{"Rename", "a", "b"})
	same(t, "what was read", b, "12345678")
}

// runNames are n names for a long run, and some that are none.
func runNames(n int) []string {
	l := []string{"", "A", strings.Repeat("a", 33)}
	for i := range n {
		l = append(l, fmt.Sprintf("f.%d-x", i))
	}
	return l
}

// TestLongRuns: P12.6, P12.7: at each step of long runs of all methods.
func TestLongRuns(t *testing.T) {
	r := rand.New(rand.NewSource(1))
	for _, run := range []struct{ quota, names, most, steps int }{
		{10, 3, 6, 4000}, {1, 2, 2, 1000}, {200, 8, 60, 3000}, {100, 90, 8, 3000}, {1 << 20, 80, 3, 2000}, {70000, 3, 50000, 500}, {1 << 20, 20, 70000, 300},
	} {
		names := runNames(run.names)
		d, m := empty(t, run.quota)
		for range run.steps {
			a := anyAct(r, names, run.most)
			switch x := r.Intn(30); {
			case x < 2:
				crashRun(t, r, d, m)
			case x == 2:
				d = otherCopy(t, r, d, m, names)
			default:
				stepRun(t, d, m, a)
			}
			allowed(t, d, run.quota)
			if t.Failed() {
				t.Fatalf("a long run of quota %d, with %v or a crash last", run.quota, a)
			}
		}
	}
}

// anyAct appends fewer bytes than most.
func anyAct(r *rand.Rand, names []string, most int) act {
	whats := []string{"Create", "Create", "Create", "Create", "Append", "Append", "Append", "Append", "Sync", "Sync", "Rename", "Remove"}
	a := act{what: whats[r.Intn(len(whats))], name: names[r.Intn(len(names))]}
	switch a.what {
	case "Rename":
		a.more = names[r.Intn(len(names))]
	case "Append":
		b := make([]byte, r.Intn(most))
		r.Read(b)
		a.more = string(b)
	}
	return a
}

// stepRun has both do it, and holds P12.7: what other names have is as it was.
func stepRun(t *testing.T, d *disk.Disk, m *model, a act) {
	t.Helper()
	before := d.Copy()
	want := m.do(a)
	same(t, a.String(), a.of(d), want)
	holdTo(t, "behind "+a.String(), d, m)
	for _, name := range append(before.List(), d.List()...) {
		if name == a.name || a.what == "Rename" && name == a.more {
			continue
		}
		old, was := before.Read(name)
		now, is := d.Read(name)
		same(t, "the error of another name", is, was)
		sameText(t, "another name's bytes", now, old)
		same(t, "what another name has synced", d.Synced(name), before.Synced(name))
	}
}

// crashRun holds P12.6: each file has the bytes that were synced, and a prefix of its tail, all of it synced.
func crashRun(t *testing.T, r *rand.Rand, d *disk.Disk, m *model) {
	t.Helper()
	before := d.Copy()
	keep := make([]int, r.Intn(80))
	for i := range keep {
		keep[i] = r.Intn(100) - 50
		if r.Intn(4) == 0 {
			keep[i] = int(r.Uint64())
		}
	}
	crash(t, d, m, keep)
	same(t, "names behind a crash", slices.Equal(d.List(), before.List()), true)
	for _, name := range before.List() {
		old, _ := before.Read(name)
		now, _ := d.Read(name)
		same(t, "a prefix, with what was synced", len(now) >= before.Synced(name) && strings.HasPrefix(old, now), true)
		same(t, "all of it synced", d.Synced(name), len(now))
	}
	d.Crash([]int{r.Intn(9), r.Intn(9) - 9})
	holdTo(t, "behind a crash directly behind a crash", d, m)
}

// otherCopy goes on with a copy, and does some things to the disk behind it, or the other way round.
func otherCopy(t *testing.T, r *rand.Rand, d *disk.Disk, m *model, names []string) *disk.Disk {
	t.Helper()
	left, next := d, d.Copy()
	if r.Intn(2) == 0 {
		left, next = next, left
	}
	for range 10 {
		anyAct(r, names, 5).of(left)
	}
	left.Crash([]int{r.Intn(5)})
	for _, name := range left.List() {
		left.Append(name, "zz")
	}
	holdTo(t, "behind what was done to its copy, or to what it is a copy of", next, m)
	return next
}

// allowed holds P12.7: never more files, or bytes, than allowed.
func allowed(t *testing.T, d *disk.Disk, quota int) {
	t.Helper()
	all := 0
	for _, name := range d.List() {
		s, _ := d.Read(name)
		same(t, "more bytes than a file may have", len(s) > 65536, false)
		all += len(s)
	}
	same(t, "Used", d.Used(), all)
	same(t, "more bytes than the quota", all > quota, false)
	same(t, "more files than may be", len(d.List()) > 64, false)
}
