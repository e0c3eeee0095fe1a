package works

import (
	"slices"
	"strconv"
	"strings"
)

const (
	maxLine = 1000 // bytes
	// maxDigits is how many digits a number of a line may have.
	maxDigits = 9
)

func isBetween(n, low, high int) bool {
	return low <= n && n <= high
}

// isLine reports whether s is a line.
func isLine(s string) bool {
	if len(s) > maxLine {
		return false
	}
	for i := range len(s) {
		if s[i] < ' ' || s[i] > '~' {
			return false
		}
	}
	return !slices.Contains(strings.Split(s, " "), "")
}

// number returns the number that s is, in decimal without leading zeros.
func number(s string) (int, bool) {
	n, err := strconv.Atoi(s)
	return n, err == nil && n >= 0 && strconv.Itoa(n) == s
}
