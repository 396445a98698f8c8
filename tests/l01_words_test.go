package tests

import (
	"bytes"
	"math"
	"math/rand/v2"
	"slices"
	"strings"
	"testing"

	"loop.example/g00663/impl"
)

const alphabet = "abcdefghijklmnopqrstuvwxyz"

// wordOfLen returns n letters a..z, a word if n is in 1..MaxWord.
func wordOfLen(n int) string {
	return strings.Repeat(alphabet, n/len(alphabet)+1)[:n]
}

// isLower is asked byte by byte, apart from the program's own test of a word.
func isLower(b byte) bool {
	return strings.IndexByte(alphabet, b) >= 0
}

func isUpper(b byte) bool {
	return strings.IndexByte(strings.ToUpper(alphabet), b) >= 0
}

// placesOf returns w with the byte b in place of each of its bytes in turn.
func placesOf(w string, b byte) []string {
	var list []string
	for i := range len(w) {
		list = append(list, w[:i]+string([]byte{b})+w[i+1:])
	}
	return list
}

func TestWordLengths(t *testing.T) {
	if impl.MaxWord != 32 || impl.WordBytes != 33 || impl.MaxText != 2000 || impl.MaxSlots != 16 {
		t.Fatal("constants")
	}
	for n := 0; n <= 2*impl.MaxWord; n++ {
		w := wordOfLen(n)
		want := n >= 1 && n <= impl.MaxWord
		if impl.WordOk(w) != want {
			t.Errorf("WordOk of %d letters: %v", n, !want)
		}
		folded := ""
		if want {
			folded = w
		}
		if got := impl.Fold(strings.ToUpper(w)); got != folded {
			t.Errorf("Fold of %d letters: %q", n, got)
		}
	}
	if impl.WordOk(wordOfLen(100000)) || impl.Fold(wordOfLen(100000)) != "" || impl.WordOk(wordOfLen(256+5)) {
		t.Error("long string")
	}
}

func TestWordBytesOfAnyValue(t *testing.T) {
	for v := range 256 {
		b := byte(v)
		for _, base := range []string{"q", "abz", wordOfLen(impl.MaxWord)} {
			for i, w := range placesOf(base, b) {
				if impl.WordOk(w) != isLower(b) {
					t.Errorf("WordOk(%q): %v", w, impl.WordOk(w))
				}
				want := ""
				if isLower(b) {
					want = w
				} else if isUpper(b) {
					want = base[:i] + string([]byte{b + 32}) + base[i+1:]
				}
				if got := impl.Fold(w); got != want {
					t.Errorf("Fold(%q): %q, want %q", w, got, want)
				}
			}
		}
	}
}

func TestWordExamples(t *testing.T) {
	if !impl.WordOk("abz") || impl.WordOk("aB") || impl.WordOk("") {
		t.Error("WordOk")
	}
	if impl.Fold("AbZ") != "abz" || impl.Fold("a-b") != "" || impl.Fold("") != "" {
		t.Error("Fold")
	}
	// Letters of other alphabets whose lower case is an ASCII letter; blanks are not cut off.
	for _, w := range []string{"\u212a", "a\u212a", "\u0130", "\u017f", "é", " ab", "ab ", "a b", "?", "ab\n"} {
		if impl.WordOk(w) || impl.Fold(w) != "" {
			t.Errorf("%q is taken as a word", w)
		}
	}
}

func TestPadForm(t *testing.T) {
	for n := 1; n <= impl.MaxWord; n++ {
		w := wordOfLen(n)
		want := append([]byte{byte(n)}, w...)
		for len(want) < 33 {
			want = append(want, 0)
		}
		d := impl.Pad(w)
		if !bytes.Equal(d, want) {
			t.Errorf("Pad(%q): %v", w, d)
		}
		if back, ok := impl.Unpad(d); !ok || back != w {
			t.Errorf("Unpad of Pad(%q): %q, %v", w, back, ok)
		}
	}
	if d := impl.Pad("ab"); !bytes.HasPrefix(d, []byte{2, 'a', 'b', 0}) {
		t.Errorf("Pad(ab): %v", d)
	}
}

func TestPadOfNoWord(t *testing.T) {
	zero := make([]byte, 33)
	for _, w := range []string{"", "?", "aB", "AB", "a b", "ab\x00", "\x00", "a\x80", "\xff", "é", "`", "{", wordOfLen(33), wordOfLen(1000)} {
		if d := impl.Pad(w); !bytes.Equal(d, zero) {
			t.Errorf("Pad(%q): %v", w, d)
		}
	}
	if w, ok := impl.Unpad(zero); ok || w != "" {
		t.Errorf("Unpad of zero bytes: %q, %v", w, ok)
	}
}

func TestPadIsNew(t *testing.T) {
	for _, w := range []string{"ab", "?"} {
		a, b := impl.Pad(w), impl.Pad(w)
		c := bytes.Clone(b)
		for i := range a {
			a[i] = 77
		}
		_ = append(a, 77)
		if !bytes.Equal(b, c) || !bytes.Equal(impl.Pad(w), c) {
			t.Errorf("Pad(%q) shares memory", w)
		}
	}
}

func failUnpad(t *testing.T, what string, data []byte) {
	t.Helper()
	if w, ok := impl.Unpad(data); ok || w != "" {
		t.Errorf("%s: Unpad(%v): %q, %v", what, data, w, ok)
	}
}

func TestUnpadLengths(t *testing.T) {
	failUnpad(t, "nil", nil)
	for _, n := range []int{1, 2, 31, 32} {
		full := impl.Pad(wordOfLen(n))
		for m := range len(full) {
			failUnpad(t, "short", full[:m])
		}
		for _, more := range []int{1, 2, 33, 300} {
			failUnpad(t, "long", append(bytes.Clone(full), make([]byte, more)...))
		}
		failUnpad(t, "long", append(bytes.Clone(full), 'a'))
	}
}

func TestUnpadFirstByte(t *testing.T) {
	for _, n := range []int{1, 2, 17, 32} {
		d := impl.Pad(wordOfLen(n))
		for v := range 256 {
			if v != n {
				d[0] = byte(v)
				failUnpad(t, "first byte", d)
			}
		}
	}
	letters := []byte(wordOfLen(33))
	for _, v := range []byte{0, 33, 34, 128, 255} {
		letters[0] = v
		failUnpad(t, "first byte before letters", letters)
	}
}

func TestUnpadOtherBytes(t *testing.T) {
	for n := 1; n <= impl.MaxWord; n++ {
		pad := impl.Pad(wordOfLen(n))
		for at := 1; at < len(pad); at++ {
			for v := range 256 {
				d := bytes.Clone(pad)
				d[at] = byte(v)
				w, ok := impl.Unpad(d)
				inWord := at <= n
				want := inWord && isLower(byte(v)) || !inWord && v == 0
				if ok != want {
					t.Fatalf("Unpad(%v): %v", d, ok)
				}
				if ok && w != string(d[1:n+1]) || !ok && w != "" {
					t.Fatalf("Unpad(%v): %q", d, w)
				}
			}
		}
	}
}

func TestUnpadKeepsItsArgument(t *testing.T) {
	room := append(impl.Pad("abc"), 9, 9, 9)
	data := room[:33]
	w, ok := impl.Unpad(data)
	if !ok || w != "abc" {
		t.Fatal("bytes behind the length are read")
	}
	if !bytes.Equal(room, append(impl.Pad("abc"), 9, 9, 9)) {
		t.Error("argument is modified")
	}
	data[1] = 'x'
	if w != "abc" {
		t.Error("word shares memory with the argument")
	}
}

// bytewise compares as the document says it, byte by byte.
func bytewise(a string, b string) int {
	for i := 0; i < len(a) && i < len(b); i++ {
		if a[i] < b[i] {
			return -1
		}
		if a[i] > b[i] {
			return 1
		}
	}
	if len(a) < len(b) {
		return -1
	}
	if len(a) > len(b) {
		return 1
	}
	return 0
}

func TestWordCmp(t *testing.T) {
	if impl.WordCmp("ab", "abc") != -1 || impl.WordCmp("b", "abc") != 1 || impl.WordCmp("", "") != 0 {
		t.Error("examples")
	}
	list := []string{"", "\x00", "\x00\x00", "a", "a\x00", "a\x01", "aa", "A", "B", "ab", "abc", "b", "z", "{", "\x7f", "\x80", "\xff", "\xff\x00", "é", "e", "\u212a", "\ufffd", "\U0001f600", " ", "a b", wordOfLen(32), wordOfLen(33), wordOfLen(3000), wordOfLen(3000) + "a", wordOfLen(2999) + "\xf0"}
	for _, a := range list {
		for _, b := range list {
			if got := impl.WordCmp(a, b); got != bytewise(a, b) || got != -impl.WordCmp(b, a) {
				t.Errorf("WordCmp(%.9q, %.9q): %d", a, b, got)
			}
		}
	}
	for a := range 256 {
		for b := range 256 {
			x, y := string([]byte{byte(a)}), string([]byte{byte(b)})
			if got := impl.WordCmp(x, y); got != bytewise(x, y) {
				t.Errorf("WordCmp(%q, %q): %d", x, y, got)
			}
		}
	}
}

func wantTokens(t *testing.T, text string, slots int, want ...string) {
	t.Helper()
	for len(want) < slots {
		want = append(want, "")
	}
	list, ok := impl.Tokens(text, slots)
	if !ok || !slices.Equal(list, want) {
		t.Errorf("Tokens(%.60q, %d): %q, %v, want %q", text, slots, list, ok, want)
	}
}

func failTokens(t *testing.T, text string, slots int) {
	t.Helper()
	if list, ok := impl.Tokens(text, slots); ok || len(list) != 0 {
		t.Errorf("Tokens(%.60q, %d): %q, %v", text, slots, list, ok)
	}
}

func TestTokensExamples(t *testing.T) {
	wantTokens(t, " The  cat,\nsat ", 4, "the", "?", "sat")
	failTokens(t, "a b c", 2)
	wantTokens(t, "a b c", 3, "a", "b", "c")
}

func TestTokensSeparators(t *testing.T) {
	for _, slots := range []int{1, 2, impl.MaxSlots} {
		wantTokens(t, "", slots)
		wantTokens(t, " ", slots)
		wantTokens(t, " \t\r\n\n\r\t ", slots)
		wantTokens(t, strings.Repeat(" \t\r\n", 500), slots)
	}
	wantTokens(t, "a\tb\nc\rd e", 6, "a", "b", "c", "d", "e")
	wantTokens(t, "\r\nAb\r\n\r\ncD\t", 2, "ab", "cd")
	for v := range 256 {
		text := "a" + string([]byte{byte(v)}) + "b"
		switch {
		case v == 9 || v == 10 || v == 13 || v == 32:
			wantTokens(t, text, 3, "a", "b")
		case isLower(byte(v)) || isUpper(byte(v)):
			wantTokens(t, text, 3, strings.ToLower(text))
		default:
			wantTokens(t, text, 3, "?")
		}
	}
}

func TestTokensOtherRunes(t *testing.T) {
	// The lowest bytes of these runes are those of separators, or they are blanks of other kinds.
	for _, r := range []rune{0x109, 0x10a, 0x10d, 0x120, 0x2009, 0x200a, 0x2020, 0x1f620, 0x85, 0xa0, 0x2003, 0x2028, 0x3000, 0xfeff} {
		wantTokens(t, "a"+string(r)+"b c", 3, "?", "c")
		wantTokens(t, string(r), 1, "?")
	}
	wantTokens(t, "\u212a k", 2, "?", "k")
}

func TestTokensInvalidUtf8(t *testing.T) {
	wantTokens(t, "\xff", 1, "?")
	wantTokens(t, "\xff \xfe", 2, "?", "?")
	wantTokens(t, "a\xe2 \x82\tb\xf0\n\xac", 5, "?", "?", "?", "?")
	wantTokens(t, "\xe2\x82 a", 3, "?", "a")
	wantTokens(t, "\xf0\x9f\x98\nb", 3, "?", "b")
	wantTokens(t, "ab \xc3", 3, "ab", "?")
	wantTokens(t, "\xc0\xa0 c", 3, "?", "c")
	wantTokens(t, "\xed\xa0\x80 c\x00 d", 4, "?", "?", "d")
	failTokens(t, "\xff \xff", 1)
}

func TestTokensForms(t *testing.T) {
	wantTokens(t, "?", 2, "?")
	wantTokens(t, "?? -", 2, "?", "?")
	wantTokens(t, strings.ToUpper(wordOfLen(32))+" "+wordOfLen(33)+" "+wordOfLen(1), 4, wordOfLen(32), "?", "a")
}

func TestTokensTextLength(t *testing.T) {
	blank := strings.Repeat(" ", impl.MaxText)
	wantTokens(t, blank, 1)
	failTokens(t, blank+" ", 1)
	wantTokens(t, wordOfLen(impl.MaxText), 1, "?")
	failTokens(t, wordOfLen(impl.MaxText+1), impl.MaxSlots)
	wantTokens(t, blank[:impl.MaxText-2]+"ab", 1, "ab")
	failTokens(t, blank[:impl.MaxText-1]+"ab", 1)
	failTokens(t, "ab"+blank, 1)
	failTokens(t, strings.Repeat(" ", 100000), 1)
	// The limit counts bytes, not runes, also where the bytes are not valid UTF-8.
	wantTokens(t, strings.Repeat("é", impl.MaxText/2), 1, "?")
	failTokens(t, strings.Repeat("é", impl.MaxText/2+1), 1)
	wantTokens(t, strings.Repeat("\xff", impl.MaxText), 1, "?")
	failTokens(t, strings.Repeat("\xff", impl.MaxText+1), 1)
	failTokens(t, strings.Repeat("a ", impl.MaxText/2), impl.MaxSlots)
}

func TestTokensSlots(t *testing.T) {
	for slots := 1; slots <= impl.MaxSlots; slots++ {
		for count := 0; count <= impl.MaxSlots+4; count++ {
			var words []string
			for i := range count {
				words = append(words, wordOfLen(i%32+1))
			}
			text := " " + strings.Join(words, "\n\t") + "\r"
			if count <= slots {
				wantTokens(t, text, slots, words...)
			} else {
				failTokens(t, text, slots)
			}
		}
	}
	for _, slots := range []int{0, -1, -16, impl.MaxSlots + 1, 2000, math.MinInt, math.MaxInt, 1 << 32, 1<<32 + 1} {
		for _, text := range []string{"", " ", "a", "a b"} {
			failTokens(t, text, slots)
		}
	}
}

func TestTokensIsNew(t *testing.T) {
	a, _ := impl.Tokens("ab cd", 4)
	b, _ := impl.Tokens("ab cd", 4)
	for i := range a {
		a[i] = "x"
	}
	_ = append(a, "x")
	if !slices.Equal(b, []string{"ab", "cd", "", ""}) {
		t.Error("two lists share memory")
	}
}

// splitBytes finds the tokens byte by byte, to be held against those of the program.
func splitBytes(text string) []string {
	var list []string
	token := ""
	for i := range len(text) {
		if strings.IndexByte("\t\n\r ", text[i]) < 0 {
			token += text[i : i+1]
		} else if token != "" {
			list = append(list, token)
			token = ""
		}
	}
	if token != "" {
		list = append(list, token)
	}
	return list
}

func foldedForms(tokens []string) []string {
	var list []string
	for _, token := range tokens {
		w := impl.Fold(token)
		if w == "" {
			w = "?"
		}
		list = append(list, w)
	}
	return list
}

// randomText is made of separators, letters, blanks of other kinds and bytes that are not valid UTF-8.
func randomText(r *rand.Rand) string {
	parts := []string{" ", " ", "\t", "\n", "\r", "  ", "a", "Z", "bc", "?", "\x00", "\xff", "\xe2", "\x82", "\xc3", "é", "\u0120", "\u2003", "\u212a", wordOfLen(31)}
	text := ""
	for range r.IntN(24) {
		text += parts[r.IntN(len(parts))]
	}
	return text
}

func TestTokensOfAnyText(t *testing.T) {
	r := rand.New(rand.NewPCG(1, 2))
	for range 20000 {
		text := randomText(r)
		slots := 1 + r.IntN(impl.MaxSlots)
		tokens := splitBytes(text)
		single := strings.Join(tokens, " ")
		if len(tokens) > slots {
			failTokens(t, text, slots)
			failTokens(t, single, slots)
			continue
		}
		wantTokens(t, text, slots, foldedForms(tokens)...)
		wantTokens(t, single, slots, foldedForms(tokens)...)
	}
}
