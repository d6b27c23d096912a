package fixup_test

import (
	"strings"
	"testing"

	"clevis/api"
	"clevis/fixup"
)

// P0.3 (within bounds)

// whole are texts of all kinds.
func whole() []string {
	return []string{
		fixup.Text(rebase(0x10a8, 0xFF00000000001000)),
		fixup.Text(rebase(0, 0)),
		fixup.Text(bind(16384, 1, "_puts", 0)),
		fixup.Text(weakly(bind(8, -2, "a%b\xff", -10))),
		fixup.Text(bind(0xF, 64, "\x01", 9223372036854775807)),
	}
}

func TestCutShort(t *testing.T) {
	for _, s := range whole() {
		for i := range len(s) + 1 {
			checkOf(t, s[:i])
			checkOf(t, s[i:])
			checkOf(t, s[:i]+s)
			checkOf(t, s+s[i:])
		}
		if _, err := checkOf(t, s); err != api.OK {
			t.Errorf("%q: %v", s, err)
		}
	}
}

func TestOneByteChanged(t *testing.T) {
	for _, s := range whole() {
		for i := range s {
			for v := range 256 {
				checkOf(t, s[:i]+string([]byte{byte(v)})+s[i+1:])
				checkOf(t, s[:i]+string([]byte{byte(v)})+s[i:])
			}
		}
	}
}

func TestOneByteGoneOrTurned(t *testing.T) {
	for _, s := range whole() {
		for i := range s {
			checkOf(t, s[:i]+s[i+1:])
			for k := i + 1; k < len(s); k++ {
				checkOf(t, s[:i]+s[k:])
				checkOf(t, s[:i]+s[k:k+1]+s[i+1:k]+s[i:i+1]+s[k+1:])
			}
		}
	}
}

// TestAllRowsOfWords: all rows of at most six of some words.
func TestAllRowsOfWords(t *testing.T) {
	words := []string{"", "0", "0x0", "1", "rebase", "bind", "weak", "%20"}
	var longer func(l []string)
	longer = func(l []string) {
		checkOf(t, strings.Join(l, " "))
		if len(l) == 6 {
			return
		}
		for _, word := range words {
			longer(append(l[:len(l):len(l)], word))
		}
	}
	longer(nil)
}

// TestAllShortWords: all words of at most four of some bytes, as each of a text's words.
func TestAllShortWords(t *testing.T) {
	var word []byte
	var longer func()
	longer = func() {
		s := string(word)
		checkOf(t, s+" rebase 0x0")
		checkOf(t, "0x0 rebase "+s)
		checkOf(t, "0x0 bind "+s+" a 0")
		checkOf(t, "0x0 bind 1 "+s+" 0")
		checkOf(t, "0x0 bind 1 a "+s)
		if len(word) == 4 {
			return
		}
		for _, v := range []byte{'0', '2', '9', 'x', 'a', 'F', '%', '-', ' ', 0xFF} {
			word = append(word, v)
			longer()
			word = word[:len(word)-1]
		}
	}
	longer()
}

// pairOf are two fixups of any numbers, alike in what many shows no bit of.
func pairOf(at, target uint64, kind, ordinal int, symbol string, addend int64, many uint8) [2]api.Fixup {
	a := api.Fixup{At: at, Kind: api.FixKind(kind), Target: target, Ordinal: ordinal, Symbol: symbol, Addend: addend, Weak: many&128 != 0}
	b := a
	if many&1 != 0 {
		b.At += uint64(many)
	}
	if many&2 != 0 {
		b.Kind = api.FixBind
	}
	if many&4 != 0 {
		b.Target = 0
	}
	if many&8 != 0 {
		b.Ordinal = -b.Ordinal
	}
	if many&16 != 0 {
		b.Symbol += "a"
	}
	if many&32 != 0 {
		b.Addend = ^b.Addend
	}
	b.Weak = many&64 != 0
	return [2]api.Fixup{a, b}
}

func FuzzFixups(f *testing.F) {
	f.Add(uint64(8), uint64(1<<56), 1, 0, "", int64(0), uint8(1))
	f.Add(uint64(16384), uint64(0), 2, 1, "_puts", int64(-1), uint8(64+16))
	f.Add(uint64(1<<64-1), uint64(1<<64-1), 3, -4, "\x00%\xff", int64(-1<<63), uint8(255))
	f.Fuzz(func(t *testing.T, at, target uint64, kind, ordinal int, symbol string, addend int64, many uint8) {
		l := pairOf(at, target, kind, ordinal, symbol, addend, many)
		for _, x := range l {
			checkOne(t, x)
		}
		checkTwo(t, l[0], l[1])
		checkSet(t, l[1], l[0], l[1])
		checkSame(t, l[:1], l[:])
	})
}

func FuzzOf(f *testing.F) {
	for _, s := range whole() {
		f.Add(s)
	}
	for _, s := range wrongTexts() {
		f.Add(s)
	}
	f.Fuzz(func(t *testing.T, s string) { checkOf(t, s) })
}
