package dec

import (
	"strconv"
	"strings"

	"verdict/api"
)

// Parse reads a number that is written in digits.
func Parse(s string) (api.Dec, api.Errno) {
	if len(s) > api.MaxDigits {
		return api.Dec{}, api.ErrMuch
	}
	unsigned, below := strings.CutPrefix(s, "-")
	ahead, behind, point := strings.Cut(unsigned, ".")
	if !isDigits(ahead) || len(ahead) > 1 && ahead[0] == '0' || point && !isDigits(behind) {
		return api.Dec{}, api.ErrForm
	}
	return fraction{below: below, digits: digitsOf(ahead + behind), exp: -len(behind)}.nearest()
}

// Print writes a number in digits, so that Parse reads the same one.
func Print(d api.Dec) (string, api.Errno) {
	if err := Wrong(d); err != api.OK {
		return "", err
	}
	text := strconv.FormatUint(size(d), 10)
	if d.Exp >= 0 {
		text += strings.Repeat("0", d.Exp)
	} else {
		text = pointed(text, -d.Exp)
	}
	if d.Coef < 0 {
		text = "-" + text
	}
	return text, api.OK
}

// pointed sets a point ahead of the last digits, as many as places says, and noughts where there are too few.
func pointed(digits string, places int) string {
	noughts := max(0, places+1-len(digits))
	digits = strings.Repeat("0", noughts) + digits
	at := len(digits) - places
	return digits[:at] + "." + digits[at:]
}

func isDigits(s string) bool {
	for i := range len(s) {
		if s[i] < '0' || s[i] > '9' {
			return false
		}
	}
	return s != ""
}

func digitsOf(s string) []byte {
	digits := make([]byte, len(s))
	for i := range digits {
		digits[i] = s[i] - '0'
	}
	return digits
}
