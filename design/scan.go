package design

import (
	"strconv"
	"strings"

	"canting/api"
)

// scan returns the tokens of a program.
func scan(s string) []string {
	var tokens []string
	for s != "" {
		if s[0] == ' ' || s[0] == '\n' {
			s = s[1:]
			continue
		}
		n := tokenLength(s)
		tokens = append(tokens, s[:n])
		s = s[n:]
	}
	return tokens
}

// tokenLength returns how long the token is with which s begins.
func tokenLength(s string) int {
	switch {
	case isLetter(s[0]):
		return run(s, isNameByte)
	case isDigit(s[0]) || s[0] == '_':
		return numberLength(s)
	case s[0] == '{':
		if end := strings.IndexByte(s, '}'); end > 0 && isMask(s[1:end]) {
			return end + 1
		}
	case strings.HasPrefix(s, "->"):
		return 2
	case strings.IndexByte("(),=<+-*|&", s[0]) >= 0:
		return 1
	}
	panic(api.ErrForm)
}

func numberLength(s string) int {
	n := 1 + run(s[1:], isDigit)
	if n < len(s) && isLetter(s[n]) {
		panic(api.ErrForm)
	}
	return n
}

// numberOf returns the number of a token.
func numberOf(token string) int {
	n, err := strconv.Atoi(strings.Replace(token, "_", "-", 1))
	// The number may still be written in another way, with zeros in front.
	if err != nil || numberToken(n) != token || !isBetween(n, -maxNumber, maxNumber) {
		panic(api.ErrForm)
	}
	return n
}
