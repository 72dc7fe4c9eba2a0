package names_test

import (
	"fmt"
	"math"
	"math/rand"
	"regexp"
	"slices"
	"strconv"
	"strings"
	"testing"
	"unicode/utf8"

	"hindcast/api"
	"hindcast/names"
)

const longestName = 21 // bytes (P14.4)

// form is what the chapter's definitions take for a name or a fresh one.
var form = regexp.MustCompile(`\A(?:([sc])([0-9a-f]{16})|manifest)(\.new)?\z`)

// parsed is what Parse answers.
type parsed struct {
	kind      int
	n         uint64
	fresh, ok bool
}

func parse(name string) parsed {
	kind, n, fresh, ok := names.Parse(name)
	return parsed{kind, n, fresh, ok}
}

// byForm is P14.2 by the library's means.
func byForm(name string) parsed {
	parts := form.FindStringSubmatch(name)
	if parts == nil {
		return parsed{}
	}
	p := parsed{kind: 3, fresh: parts[3] != "", ok: true}
	if parts[1] != "" {
		p.kind = map[string]int{"s": 1, "c": 2}[parts[1]]
		p.n, _ = strconv.ParseUint(parts[2], 16, 64)
	}
	return p
}

// numbers are the limits, each power of 16 and its neighbours, each bit alone, each digit alone at each place, and others drawn, the same ones in each run; each once, sorted.
func numbers() []uint64 {
	l := []uint64{0, 1, 9, 10, 15, 16, 255, 256, 258, math.MaxInt64, 1 << 63, math.MaxUint64}
	l = append(l, 0x0123456789abcdef, 0xfedcba9876543210, 0x9999999999999999, 0xaaaaaaaaaaaaaaaa)
	for i := range 64 {
		l = append(l, 1<<i, ^uint64(1<<i), 1<<i-1, 1<<i+1)
	}
	for place := range 16 {
		for digit := range uint64(16) {
			l = append(l, digit<<(4*place))
		}
	}
	r := rand.New(rand.NewSource(1))
	for range 1000 {
		l = append(l, r.Uint64(), r.Uint64()>>r.Intn(64))
	}
	slices.Sort(l)
	return slices.Compact(l)
}

// fewNumbers are those of which each name is spoilt in many ways.
func fewNumbers() []uint64 {
	return []uint64{0, 9, 10, 258, math.MaxInt64, 1 << 63, math.MaxUint64, 0x0123456789abcdef, 0xfedcba9876543210}
}

// fewNames are the names of fewNumbers and the manifest, and their fresh ones, put together without the package.
func fewNames() []string {
	l := []string{"manifest", "manifest.new"}
	for _, n := range fewNumbers() {
		for _, letter := range []string{"s", "c"} {
			name := fmt.Sprintf("%s%016x", letter, n)
			l = append(l, name, name+".new")
		}
	}
	return l
}

// anyTexts are the empty string, every byte alone, each two bytes of those that names have, ends of names, no valid UTF-8, and long ones.
func anyTexts() []string {
	l := []string{
		"", ".new", ".ne", ".n", ".", "new", ".NEW", ".New", ".new.new", " .new", "manifest ", " manifest", "manifest\n", "manifest.new\n", "MANIFEST", "Manifest", "manifesT", "manifes", "anifest", "m",
		"manifes.new", "manifestt", "manifestt.new", "s", "c", "s.new", "c.new",
	}
	l = append(l, "s102", "s000000000000010G", "S0000000000000102", "manifest.new.new", "d0000000000000102")
	l = append(l, "s+000000000000001", "s-000000000000001", "s0x00000000000001", "s0_00000000000001", "s 000000000000001", "s000000000000001 ", "0000000000000102", "0000000000000102.new")
	l = append(l, "\xff", "\xc3\x28", "s\xff00000000000001", "s000000000000000\x80", "manifest\xfe", "\xffmanifest", "s0000000000000102\x00", "\x00s0000000000000102", "s\uff10\uff10", "s000000000000000\uff10", "\u017f0000000000000102", "\u04410000000000000102")
	for _, s := range []string{"0", "s", "s0000000000000102", "manifest", ".new", "\xff", "\x00"} {
		l = append(l, strings.Repeat(s, 17), strings.Repeat(s, 4097))
	}
	l = append(l, "s"+strings.Repeat("0", 1<<20)+"1", "s"+strings.Repeat("f", 1<<20)+".new")
	for b := range 256 {
		l = append(l, string([]byte{byte(b)}))
	}
	for _, a := range "0129acfsmn." {
		for _, b := range "0129acfsmn." {
			l = append(l, string([]rune{a, b}))
		}
	}
	r := rand.New(rand.NewSource(2))
	for n := range 40 {
		b := make([]byte, n)
		r.Read(b)
		l = append(l, string(b))
		for i := range b {
			b[i] = "0123456789abcdefscmanifest.new"[int(b[i])%30]
		}
		l = append(l, string(b))
	}
	return l
}

func same[T comparable](t *testing.T, what string, got, want T) {
	t.Helper()
	if got != want {
		t.Errorf("%s: %v, not %v", what, got, want)
	}
}

// holdParse holds Parse to the chapter's definitions.
func holdParse(t *testing.T, name string) {
	t.Helper()
	same(t, fmt.Sprintf("Parse(%.60q)", name), parse(name), byForm(name))
}

// holdUnknown is for what must be no name, whatever byForm takes it for.
func holdUnknown(t *testing.T, name string) {
	t.Helper()
	same(t, fmt.Sprintf("Parse(%.60q)", name), parse(name), parsed{})
}

// TestExamples holds the chapter's table.
func TestExamples(t *testing.T) {
	same(t, "Segment(0)", names.Segment(0), "s0000000000000000")
	same(t, "Segment(258)", names.Segment(258), "s0000000000000102")
	same(t, "Check(2^64 - 1)", names.Check(math.MaxUint64), "cffffffffffffffff")
	same(t, "Manifest", names.Manifest, "manifest")
	same(t, "New(manifest)", names.New("manifest"), "manifest.new")
	same(t, "Parse(s0000000000000102)", parse("s0000000000000102"), parsed{1, 258, false, true})
	same(t, "Parse(c0000000000000001.new)", parse("c0000000000000001.new"), parsed{2, 1, true, true})
	same(t, "Parse(manifest)", parse("manifest"), parsed{3, 0, false, true})
	for _, name := range []string{"s102", "s000000000000010G", "S0000000000000102", "manifest.new.new", "", ".new"} {
		holdUnknown(t, name)
	}
}

// TestConstants: the kinds are 1, 2, 3, and they and Manifest are constants without a type.
func TestConstants(t *testing.T) {
	const segment, check, manifest uint8 = names.KindSegment, names.KindCheck, names.KindManifest
	type file string
	const untyped file = names.Manifest
	same(t, "KindSegment", segment, 1)
	same(t, "KindCheck", check, 2)
	same(t, "KindManifest", manifest, 3)
	same(t, "Manifest", untyped, "manifest")
}

// TestSegmentAndCheck: P14.1.
func TestSegmentAndCheck(t *testing.T) {
	for n, digits := range map[uint64]string{
		0: "0000000000000000", 1: "0000000000000001", 9: "0000000000000009", 10: "000000000000000a",
		15: "000000000000000f", 16: "0000000000000010", 255: "00000000000000ff", 256: "0000000000000100",
		math.MaxInt64: "7fffffffffffffff", 1 << 63: "8000000000000000", math.MaxUint64: "ffffffffffffffff",
	} {
		same(t, fmt.Sprintf("Segment(%d)", n), names.Segment(n), "s"+digits)
		same(t, fmt.Sprintf("Check(%d)", n), names.Check(n), "c"+digits)
	}
	for _, n := range numbers() {
		same(t, fmt.Sprintf("Segment(%d)", n), names.Segment(n), fmt.Sprintf("s%016x", n))
		same(t, fmt.Sprintf("Check(%d)", n), names.Check(n), fmt.Sprintf("c%016x", n))
	}
}

// TestSegmentAndCheckOfPowers: P14.1: each power of 16 and the numbers next to it, by their digits.
func TestSegmentAndCheckOfPowers(t *testing.T) {
	for place := range 16 {
		n, ahead, behind := uint64(1)<<(4*place), strings.Repeat("0", 15-place), strings.Repeat("0", place)
		same(t, "Segment of a power", names.Segment(n), "s"+ahead+"1"+behind)
		same(t, "Check of a power", names.Check(n), "c"+ahead+"1"+behind)
		same(t, "Segment below a power", names.Segment(n-1), "s"+ahead+"0"+strings.Repeat("f", place))
		same(t, "Check below a power", names.Check(n-1), "c"+ahead+"0"+strings.Repeat("f", place))
		above := ahead + "2"
		if place > 0 {
			above = ahead + "1" + behind[1:] + "1"
		}
		same(t, "Segment above a power", names.Segment(n+1), "s"+above)
		same(t, "Check above a power", names.Check(n+1), "c"+above)
	}
}

// TestNew: P14.1: of names, of fresh ones, and of any text, which New doesn't ask about.
func TestNew(t *testing.T) {
	for _, text := range append(anyTexts(), fewNames()...) {
		if got := names.New(text); got != text+".new" {
			t.Errorf("New(%.60q): %d bytes %.60q", text, len(got), got)
		}
	}
	for _, n := range numbers() {
		same(t, "New of a segment's name", names.New(names.Segment(n)), fmt.Sprintf("s%016x.new", n))
		same(t, "New of a checkpoint's name", names.New(names.Check(n)), fmt.Sprintf("c%016x.new", n))
	}
}

// TestParseNames: P14.2 and the first half of P14.3: each name, and each fresh one.
func TestParseNames(t *testing.T) {
	for _, n := range numbers() {
		digits := fmt.Sprintf("%016x", n)
		same(t, "Parse of s"+digits, parse("s"+digits), parsed{1, n, false, true})
		same(t, "Parse of c"+digits, parse("c"+digits), parsed{2, n, false, true})
		same(t, "Parse of s"+digits+".new", parse("s"+digits+".new"), parsed{1, n, true, true})
		same(t, "Parse of c"+digits+".new", parse("c"+digits+".new"), parsed{2, n, true, true})
		same(t, "Parse of Segment", parse(names.Segment(n)), parsed{names.KindSegment, n, false, true})
		same(t, "Parse of Check", parse(names.Check(n)), parsed{names.KindCheck, n, false, true})
		same(t, "Parse of New of Segment", parse(names.New(names.Segment(n))), parsed{names.KindSegment, n, true, true})
		same(t, "Parse of New of Check", parse(names.New(names.Check(n))), parsed{names.KindCheck, n, true, true})
	}
	same(t, "Parse of the manifest", parse(names.Manifest), parsed{names.KindManifest, 0, false, true})
	same(t, "Parse of the fresh manifest", parse(names.New(names.Manifest)), parsed{names.KindManifest, 0, true, true})
}

// TestParseOtherTexts: P14.2: none of anyTexts is a name, and what is made of them is one only where byForm knows it.
func TestParseOtherTexts(t *testing.T) {
	for _, text := range anyTexts() {
		holdUnknown(t, text)
		holdParse(t, text+".new")
		holdParse(t, "s"+text)
		holdParse(t, "c"+text+".new")
	}
}

// TestParseWrongLengths: P14.2: one byte too short, at each place, and one too long, at each place, also with .new behind.
func TestParseWrongLengths(t *testing.T) {
	for _, n := range fewNumbers() {
		for _, name := range []string{names.Segment(n), names.Check(n), names.Manifest} {
			for i := range name {
				short := name[:i] + name[i+1:]
				holdUnknown(t, short)
				holdUnknown(t, short+".new")
			}
			for i := range len(name) + 1 {
				for b := range 256 {
					long := name[:i] + string([]byte{byte(b)}) + name[i:]
					holdUnknown(t, long)
					holdUnknown(t, long+".new")
				}
			}
		}
	}
	for width := range 40 {
		if width != 16 {
			holdUnknown(t, "s"+strings.Repeat("0", width))
			holdUnknown(t, "c"+strings.Repeat("f", width)+".new")
		}
	}
}

// TestParseTurnedBytes: P14.2: each byte of a name, and of a fresh one, turned to each other byte; by what is told for each of them at its place.
func TestParseTurnedBytes(t *testing.T) {
	for _, name := range fewNames() {
		for i := range name {
			for b := range 256 {
				b := byte(b)
				if b == name[i] {
					continue
				}
				turned := name[:i] + string([]byte{b}) + name[i+1:]
				if !staysName(name, i, b) {
					holdUnknown(t, turned)
					continue
				}
				if !parse(turned).ok || parse(turned) == parse(name) {
					t.Errorf("Parse of %q is %v, that of %q is %v", turned, parse(turned), name, parse(name))
				}
				holdParse(t, turned)
			}
		}
	}
}

// staysName is whether b in place of the byte at i of a name makes one of it again: s for c and c for s, and digits among the digits.
func staysName(name string, i int, b byte) bool {
	switch {
	case name[0] == 'm':
		return false
	case i == 0:
		return b == 's' || b == 'c'
	default:
		return i <= 16 && ('0' <= b && b <= '9' || 'a' <= b && b <= 'f')
	}
}

// TestParseNamedBytes: P14.2: the bytes next to the digits, and those that other readers of numbers take, at each digit's place.
func TestParseNamedBytes(t *testing.T) {
	for _, b := range "/:@`gGABCDEF+-_xX .,\x00" {
		for i := range 16 {
			digits := strings.Repeat("0", i) + string(b) + strings.Repeat("0", 15-i)
			for _, letter := range []string{"s", "c"} {
				holdUnknown(t, letter+digits)
				holdUnknown(t, letter+digits+".new")
			}
		}
	}
}

// TestParseOtherLetters: P14.2: another byte ahead of the digits, or none.
func TestParseOtherLetters(t *testing.T) {
	for b := range 256 {
		letter := string([]byte{byte(b)})
		if letter == "s" || letter == "c" {
			continue
		}
		for _, n := range fewNumbers() {
			holdUnknown(t, letter+fmt.Sprintf("%016x", n))
			holdUnknown(t, letter+fmt.Sprintf("%016x.new", n))
		}
	}
	for _, n := range fewNumbers() {
		holdUnknown(t, fmt.Sprintf("%016x", n))
		holdUnknown(t, fmt.Sprintf("%017x", n))
		holdUnknown(t, fmt.Sprintf("ss%015x", n>>4))
		holdUnknown(t, fmt.Sprintf("cs%015x", n>>4))
		holdUnknown(t, fmt.Sprintf("manifest%016x", n))
		holdUnknown(t, fmt.Sprintf("m%016x", n))
	}
}

// TestParseUpperCase: P14.2: each letter of each name in upper case, alone, and all of them.
func TestParseUpperCase(t *testing.T) {
	for _, name := range fewNames() {
		for i := range name {
			if upper := strings.ToUpper(name[i : i+1]); upper != name[i:i+1] {
				holdUnknown(t, name[:i]+upper+name[i+1:])
			}
		}
		holdUnknown(t, strings.ToUpper(name))
	}
}

// TestParseEnds: P14.2: .new twice, in part, in upper case, ahead, and in the middle.
func TestParseEnds(t *testing.T) {
	for _, name := range fewNames() {
		base, fresh := strings.CutSuffix(name, ".new")
		for _, end := range []string{".", ".n", ".ne", ".new.", ".new.n", ".new.new", ".new.new.new", ".NEW", ".New", ".neW", ".newer", "new", "..new", ".new ", ".old", ".new\n", "\n"} {
			holdUnknown(t, base+end)
		}
		for i := range base {
			holdUnknown(t, base[:i]+".new"+base[i:])
		}
		same(t, "whether "+name+" is fresh", parse(name).fresh, fresh)
		same(t, "Parse of New of "+name, parse(names.New(name)).ok, !fresh)
		holdUnknown(t, names.New(names.New(name)))
	}
}

// TestParseManifest: P14.2: all pieces of the manifest's name and of its fresh one, with what else may stand around them.
func TestParseManifest(t *testing.T) {
	whole := "manifest.new"
	for from := range whole {
		for to := from; to <= len(whole); to++ {
			piece := whole[from:to]
			want := parsed{}
			if from == 0 && (to == 8 || to == 12) {
				want = parsed{3, 0, to == 12, true}
			}
			same(t, fmt.Sprintf("Parse(%q)", piece), parse(piece), want)
		}
	}
	for _, name := range []string{"smanifest", "cmanifest", "manifests", "manifest0", "manifest0000000000000000", "manifestmanifest", "manifest.manifest"} {
		holdUnknown(t, name)
		holdUnknown(t, name+".new")
	}
}

// TestDifferentNames: P14.3: whatever is different in kind, number or freshness has another name.
func TestDifferentNames(t *testing.T) {
	made := map[string]parsed{}
	add := func(name string, p parsed) {
		if before, found := made[name]; found {
			t.Errorf("%q is the name of %v and of %v", name, before, p)
		}
		made[name] = p
	}
	for _, n := range numbers() {
		add(names.Segment(n), parsed{1, n, false, true})
		add(names.Check(n), parsed{2, n, false, true})
		add(names.New(names.Segment(n)), parsed{1, n, true, true})
		add(names.New(names.Check(n)), parsed{2, n, true, true})
	}
	add(names.Manifest, parsed{3, 0, false, true})
	add(names.New(names.Manifest), parsed{3, 0, true, true})
	for name, p := range made {
		same(t, "Parse of "+name, parse(name), p)
	}
}

// TestOneNameEach: P14.3 the other way round: what Parse takes is the name that is made of what it answers.
func TestOneNameEach(t *testing.T) {
	texts := append(fewNames(), anyTexts()...)
	for _, name := range texts {
		kind, n, fresh, ok := names.Parse(name)
		if !ok {
			continue
		}
		made := map[int]string{names.KindSegment: names.Segment(n), names.KindCheck: names.Check(n), names.KindManifest: names.Manifest}[kind]
		if fresh {
			made = names.New(made)
		}
		same(t, "what is made of Parse's answer", made, name)
	}
}

// holdOrder holds that the names of the smaller number are before those of the greater one.
func holdOrder(t *testing.T, smaller, greater uint64) {
	t.Helper()
	for _, name := range []func(uint64) string{
		names.Segment,
		names.Check,
		func(n uint64) string { return names.New(names.Segment(n)) },
		func(n uint64) string { return names.New(names.Check(n)) },
	} {
		if a, b := name(smaller), name(greater); a >= b {
			t.Errorf("%q of %d is not before %q of %d", a, smaller, b, greater)
		}
	}
}

// TestOrder: P14.3: any two numbers, and all that are next to each other among the numbers.
func TestOrder(t *testing.T) {
	l := numbers()
	for i := range l[1:] {
		holdOrder(t, l[i], l[i+1])
	}
	r := rand.New(rand.NewSource(3))
	for range 2000 {
		if i, j := r.Intn(len(l)), r.Intn(len(l)); i != j {
			holdOrder(t, l[min(i, j)], l[max(i, j)])
		}
	}
}

// TestOrderOfDigits: P14.3: numbers that differ in one digit alone, at each place, with each two digits there, 9 and a among them.
func TestOrderOfDigits(t *testing.T) {
	for _, around := range fewNumbers() {
		for place := range 16 {
			others := around &^ (15 << (4 * place))
			for digit := range uint64(15) {
				for above := digit + 1; above < 16; above++ {
					holdOrder(t, others|digit<<(4*place), others|above<<(4*place))
				}
			}
		}
	}
}

// TestLengths: P14.4: names have at most 21 bytes, and all of them are such as a disk takes.
func TestLengths(t *testing.T) {
	fileName := regexp.MustCompile(`\A[a-z0-9.]+\z`)
	longest := 0
	for _, n := range numbers() {
		for _, name := range []string{names.Segment(n), names.Check(n), names.Manifest} {
			for _, name := range []string{name, names.New(name)} {
				longest = max(longest, len(name))
				if !fileName.MatchString(name) || !utf8.ValidString(name) {
					t.Errorf("%q is no file's name", name)
				}
			}
		}
	}
	if longest > longestName || longest > api.MaxName {
		t.Errorf("a name has %d bytes", longest)
	}
}

// TestNoPanics: P14.4: any text for New and Parse, also what each of them makes of the other's.
func TestNoPanics(t *testing.T) {
	defer func() {
		if p := recover(); p != nil {
			t.Errorf("a call panics: %v", p)
		}
	}()
	for _, text := range append(anyTexts(), fewNames()...) {
		for range 3 {
			names.Parse(text)
			text = names.New(text)
		}
	}
	r := rand.New(rand.NewSource(4))
	for range 2000 {
		b := make([]byte, r.Intn(30))
		r.Read(b)
		names.Parse(string(b))
		names.Segment(r.Uint64())
		names.Check(r.Uint64())
	}
}
