package impl

import (
	"bytes"
	"strings"
)

const MaxWord = 32
const WordBytes = 33
const MaxText = 2000
const MaxSlots = 16

// WordOk reports whether w has 1..MaxWord letters a..z.
func WordOk(w string) bool {
	if len(w) < 1 || len(w) > MaxWord {
		return false
	}
	for i := range len(w) {
		if w[i] < 'a' || w[i] > 'z' {
			return false
		}
	}
	return true
}

// Fold returns w in lower case if that is a word, and otherwise the empty string.
func Fold(w string) string {
	// Folding keeps the length, so a string that is too long cannot become a word.
	if len(w) > MaxWord {
		return ""
	}
	letters := make([]byte, len(w))
	for i := range letters {
		letters[i] = lowerByte(w[i])
	}
	folded := string(letters)
	if !WordOk(folded) {
		return ""
	}
	return folded
}

// lowerByte leaves all bytes but A..Z alone: other alphabets have no letters in a word.
func lowerByte(b byte) byte {
	if b >= 'A' && b <= 'Z' {
		return b - 'A' + 'a'
	}
	return b
}

// Pad returns the padded form of a word, or zero bytes if w is not a word.
func Pad(w string) []byte {
	data := make([]byte, WordBytes)
	if !WordOk(w) {
		return data
	}
	data[0] = byte(len(w))
	copy(data[1:], w)
	return data
}

// Unpad returns the word whose Pad is data, and whether there is one.
func Unpad(data []byte) (string, bool) {
	if len(data) != WordBytes || data[0] > MaxWord {
		return "", false
	}
	w := string(data[1 : 1+int(data[0])])
	// Padding again also finds a byte behind the end that is not zero.
	if !WordOk(w) || !bytes.Equal(Pad(w), data) {
		return "", false
	}
	return w, true
}

// WordCmp compares two strings bytewise: -1, 0 or 1.
func WordCmp(a string, b string) int {
	return strings.Compare(a, b)
}

// Tokens returns the tokens of a text in a list of slots strings, and whether they fit.
func Tokens(text string, slots int) ([]string, bool) {
	if len(text) > MaxText || slots < 1 || slots > MaxSlots {
		return nil, false
	}
	list := make([]string, slots)
	count := 0
	begin := 0
	// The space behind the text ends its last token. A byte that is not valid UTF-8
	// is passed alone, so the separators, all below 128, are met one by one.
	for i, r := range text + " " {
		if !isSeparator(r) {
			continue
		}
		if begin < i {
			if count == slots {
				return nil, false
			}
			list[count] = tokenForm(text[begin:i])
			count++
		}
		begin = i + 1
	}
	return list, true
}

func isSeparator(r rune) bool {
	return r == 9 || r == 10 || r == 13 || r == 32
}

// tokenForm marks a token that is no word by "?", as the empty string means an unused slot.
func tokenForm(token string) string {
	folded := Fold(token)
	if folded == "" {
		return "?"
	}
	return folded
}
