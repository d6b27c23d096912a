package fixup_test

import (
	"fmt"
	"math/big"
	"regexp"
	"slices"
	"strconv"
	"strings"
	"testing"

	"clevis/api"
	"clevis/fixup"
)

// What the chapter says of fixups, once more, so that the calls can be held against it whatever fixups and texts there are.

// The limits that the document names.
const (
	mostName = 255
	mostDeps = 64
)

func wantMay(f api.Fixup) bool {
	if f.Kind == 1 {
		f.At, f.Target = 0, 0
		return f == api.Fixup{Kind: 1}
	}
	if f.Kind != 2 || f.Target != 0 || f.Ordinal < -3 || f.Ordinal > mostDeps {
		return false
	}
	return len(f.Symbol) >= 1 && len(f.Symbol) <= mostName && !strings.Contains(f.Symbol, "\x00")
}

// key is what a fixup's place in the order hangs on, as a text whose bytes have that order.
func key(f api.Fixup) string {
	// Numbers that may be below 0 begin with their sign, turned round.
	s := fmt.Sprintf("%016x %016x %016x %016x ", f.At, uint64(f.Kind)^1<<63, f.Target, uint64(f.Ordinal)^1<<63)
	for i := range len(f.Symbol) {
		s += fmt.Sprintf("%02x", f.Symbol[i])
	}
	// A blank is ahead of each digit: what ends is ahead of what goes on.
	return s + fmt.Sprintf(" %016x %v", uint64(f.Addend)^1<<63, f.Weak)
}

func wantOrder(a, b api.Fixup) int { return strings.Compare(key(a), key(b)) }

func wantSet(l []api.Fixup) []api.Fixup {
	keys := map[string]api.Fixup{}
	var order []string
	for _, f := range l {
		k := key(f)
		if _, is := keys[k]; !is {
			order = append(order, k)
		}
		keys[k] = f
	}
	slices.Sort(order)
	var s []api.Fixup
	for _, k := range order {
		s = append(s, keys[k])
	}
	return s
}

func wantSame(a, b []api.Fixup) bool {
	has := func(l []api.Fixup, f api.Fixup) bool { return slices.Contains(l, f) }
	for _, f := range a {
		if !has(b, f) {
			return false
		}
	}
	for _, f := range b {
		if !has(a, f) {
			return false
		}
	}
	return true
}

func wantMeet(l []api.Fixup) bool {
	for _, a := range l {
		for _, b := range l {
			if a == b {
				continue
			}
			apart := new(big.Int).Sub(new(big.Int).SetUint64(a.At), new(big.Int).SetUint64(b.At))
			if apart.CmpAbs(big.NewInt(8)) < 0 {
				return true
			}
		}
	}
	return false
}

func wantValue(f api.Fixup, slide, target uint64) uint64 {
	sum, round, top := new(big.Int), new(big.Int), new(big.Int)
	if f.Kind == 1 {
		low := f.Target
		for range 56 {
			low /= 2
		}
		top.Lsh(big.NewInt(int64(low)), 56)
		sum.Sub(new(big.Int).SetUint64(f.Target), top)
		sum.Add(sum, new(big.Int).SetUint64(slide))
		round.Lsh(big.NewInt(1), 56)
	} else {
		sum.Add(new(big.Int).SetUint64(target), big.NewInt(f.Addend))
		round.Lsh(big.NewInt(1), 64)
	}
	// Mod is never below 0.
	return sum.Mod(sum, round).Add(sum, top).Uint64()
}

func wantText(f api.Fixup) string {
	if !wantMay(f) {
		return ""
	}
	if f.Kind == 1 {
		return fmt.Sprintf("%#x rebase %#x", f.At, f.Target)
	}
	name := ""
	for i := range len(f.Symbol) {
		if v := f.Symbol[i]; strings.IndexByte(seen, v) >= 0 {
			name += string(rune(v))
		} else {
			name += fmt.Sprintf("%%%02x", v)
		}
	}
	s := fmt.Sprintf("%#x bind %d %s %d", f.At, f.Ordinal, name, f.Addend)
	if f.Weak {
		s += " weak"
	}
	return s
}

// seen are the bytes that stand in a text as they are.
const seen = `!"#$&'()*+,-./0123456789:;<=>?@ABCDEFGHIJKLMNOPQRSTUVWXYZ[\]^_` + "`abcdefghijklmnopqrstuvwxyz{|}~"

// The forms of texts.
var (
	aRebase = regexp.MustCompile(`^0x(0|[1-9a-f][0-9a-f]{0,15}) rebase 0x(0|[1-9a-f][0-9a-f]{0,15})$`)
	aBind   = regexp.MustCompile(`^0x(0|[1-9a-f][0-9a-f]{0,15}) bind (-[1-3]|[0-9]|[1-5][0-9]|6[0-4]) ([!-~]+) (0|-?[1-9][0-9]{0,18})( weak)?$`)
	aByte   = regexp.MustCompile(`^%([01789a-f][0-9a-f]|2[05]|7f)`)
)

// nameOf is the symbol of a word; is it one's?
func nameOf(word string) (string, bool) {
	name := ""
	for word != "" {
		if word[0] != '%' {
			name, word = name+word[:1], word[1:]
			continue
		}
		is := aByte.FindStringSubmatch(word)
		if is == nil {
			return "", false
		}
		v, _ := strconv.ParseUint(is[1], 16, 8)
		if v == 0 || v >= '!' && v <= '~' && v != '%' {
			return "", false
		}
		name, word = name+string([]byte{byte(v)}), word[3:]
	}
	return name, len(name) >= 1 && len(name) <= mostName
}

func wantOf(s string) (api.Fixup, api.Errno) {
	if is := aRebase.FindStringSubmatch(s); is != nil {
		at, _ := strconv.ParseUint(is[1], 16, 64)
		target, _ := strconv.ParseUint(is[2], 16, 64)
		return api.Fixup{At: at, Kind: 1, Target: target}, api.OK
	}
	is := aBind.FindStringSubmatch(s)
	if is == nil {
		return api.Fixup{}, api.ErrArg
	}
	at, _ := strconv.ParseUint(is[1], 16, 64)
	ordinal, _ := strconv.Atoi(is[2])
	name, named := nameOf(is[3])
	addend, err := strconv.ParseInt(is[4], 10, 64)
	if !named || err != nil {
		return api.Fixup{}, api.ErrArg
	}
	return api.Fixup{At: at, Kind: 2, Ordinal: ordinal, Symbol: name, Addend: addend, Weak: is[5] != ""}, api.OK
}

// brief tells a text, if it is not too long.
func brief(s string) string {
	if len(s) > 1200 {
		return fmt.Sprintf("%d bytes (%q ..)", len(s), s[:100])
	}
	return fmt.Sprintf("%q", s)
}

// briefly tells fixups, if there are not too many.
func briefly(l []api.Fixup) string {
	if len(l) > 20 {
		return fmt.Sprintf("%d fixups", len(l))
	}
	return fmt.Sprintf("%+v", l)
}

// checkOne holds all that is asked of one fixup against what is wanted.
func checkOne(t *testing.T, f api.Fixup) {
	t.Helper()
	if is := fixup.May(f); is != wantMay(f) {
		t.Fatalf("may %+v be? %v", f, is)
	}
	if s := fixup.Text(f); s != wantText(f) {
		t.Fatalf("the text of %+v: %s, want %s", f, brief(s), brief(wantText(f)))
	}
	for _, n := range []uint64{0, 1, 0x4000, 1<<56 - 1, 1 << 56, 1<<64 - 0x4000, 1<<64 - 1} {
		for _, k := range []uint64{0, 9, 1 << 63, 1<<64 - 1} {
			if v := fixup.Value(f, n, k); v != wantValue(f, n, k) {
				t.Fatalf("the value of %+v, %#x, %#x: %#x, want %#x", f, n, k, v, wantValue(f, n, k))
			}
		}
	}
	if !fixup.May(f) {
		return
	}
	if x, err := checkOf(t, fixup.Text(f)); x != f || err != api.OK {
		t.Fatalf("Of of the text of %+v: %+v (%v)", f, x, err)
	}
}

// checkTwo holds all that is asked of two fixups against what is wanted.
func checkTwo(t *testing.T, a, b api.Fixup) {
	t.Helper()
	order := fixup.Order(a, b)
	if order != wantOrder(a, b) {
		t.Fatalf("the order of %+v, %+v: %d, want %d", a, b, order, wantOrder(a, b))
	}
	if (order == 0) != (a == b) || fixup.Order(b, a) != -order {
		t.Fatalf("the order of %+v, %+v: %d, and turned round %d", a, b, order, fixup.Order(b, a))
	}
	if is := fixup.Meet(a, b); is != wantMeet([]api.Fixup{a, b}) {
		t.Fatalf("do %+v, %+v meet? %v", a, b, is)
	}
}

// checkSet holds Set of any fixups, which are to stay as they are, against what is wanted; and whether they meet, if they are not too many.
func checkSet(t *testing.T, l ...api.Fixup) []api.Fixup {
	t.Helper()
	before := slices.Clone(l)
	s := fixup.Set(l...)
	if want := wantSet(l); !slices.Equal(s, want) {
		t.Fatalf("the set of %s: %s, want %s", briefly(l), briefly(s), briefly(want))
	}
	if again := fixup.Set(s...); !slices.Equal(again, s) {
		t.Fatalf("the set of the set %s: %s", briefly(s), briefly(again))
	}
	if !fixup.Same(s, l) || !fixup.Same(l, s) {
		t.Fatalf("%s is not the same as its set", briefly(l))
	}
	if len(l) <= 100 {
		if is := fixup.Meet(l...); is != wantMeet(l) {
			t.Fatalf("do two of %s meet? %v", briefly(l), is)
		}
	}
	if !slices.Equal(l, before) {
		t.Fatalf("%s was changed", briefly(before))
	}
	return s
}

// checkSame holds Same of any fixups, which are to stay as they are, against what is wanted.
func checkSame(t *testing.T, a, b []api.Fixup) {
	t.Helper()
	one, two := slices.Clone(a), slices.Clone(b)
	if is := fixup.Same(a, b); is != wantSame(a, b) || fixup.Same(b, a) != is {
		t.Fatalf("are %s, %s the same? %v", briefly(a), briefly(b), is)
	}
	if !slices.Equal(a, one) || !slices.Equal(b, two) {
		t.Fatalf("%s, %s were changed", briefly(one), briefly(two))
	}
}

// checkOf holds Of of any text against what is wanted.
func checkOf(t *testing.T, s string) (api.Fixup, api.Errno) {
	t.Helper()
	want, wantErr := wantOf(s)
	f, err := fixup.Of(s)
	if f != want || err != wantErr {
		t.Fatalf("Of %s: %+v (%v), want %+v (%v)", brief(s), f, err, want, wantErr)
	}
	if err == api.OK && (!fixup.May(f) || fixup.Text(f) != s) {
		t.Fatalf("Of %s: %+v, whose text is %s", brief(s), f, brief(fixup.Text(f)))
	}
	return f, err
}

// rebase is one at that address.
func rebase(at, target uint64) api.Fixup {
	return api.Fixup{At: at, Kind: api.FixRebase, Target: target}
}

// bind is one at that address.
func bind(at uint64, ordinal int, symbol string, addend int64) api.Fixup {
	return api.Fixup{At: at, Kind: api.FixBind, Ordinal: ordinal, Symbol: symbol, Addend: addend}
}

// weakly is a bind that is a weak import.
func weakly(f api.Fixup) api.Fixup {
	f.Weak = true
	return f
}
