package fixup

import (
	"strconv"
	"strings"

	"clevis/api"
)

// The words of texts, and what stands ahead of hexadecimal digits.
const (
	wordRebase = "rebase"
	wordBind   = "bind"
	wordWeak   = "weak"
	prefix     = "0x"
	digits     = "0123456789abcdef"
)

// How many words a text of a rebase, of a bind, and of a bind that is a weak import has.
const (
	rebaseWords = 3
	bindWords   = 5
	weakWords   = 6
)

// Text is a fixup's text.
func Text(f api.Fixup) string {
	if !May(f) {
		return ""
	}
	if f.Kind == api.FixRebase {
		return line(hex(f.At), wordRebase, hex(f.Target))
	}
	s := line(hex(f.At), wordBind, strconv.Itoa(f.Ordinal), quote(f.Symbol), strconv.FormatInt(f.Addend, 10))
	if f.Weak {
		return line(s, wordWeak)
	}
	return s
}

// line is words, put together.
func line(words ...string) string { return strings.Join(words, " ") }

// hex is an address as it is told.
func hex(n uint64) string { return prefix + strconv.FormatUint(n, 16) }

// quote is a symbol as one word, in which no blank and no other byte stands that can't be seen.
func quote(symbol string) string {
	var b []byte
	for i := range len(symbol) {
		v := symbol[i]
		if v < '!' || v > '~' || v == '%' {
			b = append(b, '%', digits[v>>4], digits[v&15])
		} else {
			b = append(b, v)
		}
	}
	return string(b)
}

// Of is the fixup of a text.
func Of(s string) (api.Fixup, api.Errno) {
	f := read(strings.SplitN(s, " ", weakWords+1))
	// Of all that can be read as this fixup just one is its text: no nought ahead, no great letter.
	if !May(f) || Text(f) != s {
		return api.Fixup{}, api.ErrArg
	}
	return f, api.OK
}

// read is the fixup of which words tell, if they are the words of one.
func read(words []string) api.Fixup {
	switch {
	case len(words) == rebaseWords && words[1] == wordRebase:
		return api.Fixup{At: address(words[0]), Kind: api.FixRebase, Target: address(words[2])}
	case len(words) >= bindWords && words[1] == wordBind:
		f := api.Fixup{At: address(words[0]), Kind: api.FixBind, Symbol: unquote(words[3]), Weak: len(words) == weakWords}
		f.Ordinal, _ = strconv.Atoi(words[2])
		f.Addend, _ = strconv.ParseInt(words[4], 10, 64)
		return f
	}
	return api.Fixup{}
}

// address is a number behind its prefix.
func address(word string) uint64 { return number(strings.TrimPrefix(word, prefix)) }

// number is what hexadecimal digits tell, up to the first that is none.
func number(text string) uint64 {
	n := uint64(0)
	for _, r := range text {
		d, is := digit(r)
		if !is {
			break
		}
		n = n<<4 | d
	}
	return n
}

// digit is what one tells, if it is one.
func digit(r rune) (uint64, bool) {
	switch {
	case r >= '0' && r <= '9':
		return uint64(r - '0'), true
	case r >= 'a' && r <= 'f':
		return uint64(r-'a') + 10, true
	}
	return 0, false
}

// unquote is the symbol of a word, or as much of it as shows that it is too long.
func unquote(word string) string {
	var b []byte
	for len(word) > 0 && len(b) <= api.MaxName {
		if word[0] == '%' && len(word) > 2 {
			b = append(b, byte(number(word[1:3])))
			word = word[3:]
		} else {
			b = append(b, word[0])
			word = word[1:]
		}
	}
	return string(b)
}
