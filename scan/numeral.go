package scan

import (
	"strings"

	"gavelkind/api"
)

// isPlace tells whether at is a place of s.
func isPlace(s string, at int) bool { return at >= 0 && at <= len(s) }

// numeral tells the numeral at the beginning of a text.
func numeral(there string) (string, api.Errno) {
	body, minus := strings.CutPrefix(there, "-")
	digits := body[:leading(body)]
	switch {
	case body == "":
		return "", api.ErrShort
	case digits == "", digits[0] == '0' && (minus || digits != "0"):
		return "", api.ErrForm
	case minus:
		return there[:len(digits)+1], api.OK
	}
	return digits, api.OK
}

// leading tells how many digits follow one another at the beginning of a text.
func leading(s string) int {
	digit := func(i int) bool { return s[i] >= '0' && s[i] <= '9' }
	for i := range len(s) {
		if !digit(i) {
			return i
		}
	}
	return len(s)
}
