package redo

import (
	"strconv"
	"strings"

	"strata/api"
)

const (
	segmentLetters = "log-"
	segmentDigits  = 6
)

func isFileName(name string) bool {
	if len(name) < 1 || len(name) > api.MaxFileName {
		return false
	}
	for i := range len(name) {
		if !isNameByte(name[i]) {
			return false
		}
	}
	return true
}

func isNameByte(b byte) bool {
	return 'a' <= b && b <= 'z' || isDigit(b) || b == '.' || b == '-' || b == '_'
}

func isDigit(b byte) bool { return '0' <= b && b <= '9' }

func segmentName(number int) string {
	digits := strconv.Itoa(number)
	return segmentLetters + strings.Repeat("0", segmentDigits-len(digits)) + digits
}

// segmentNumber tells the number of the segment of that name; 0, if it is no segment's.
func segmentNumber(name string) int {
	digits, ok := strings.CutPrefix(name, segmentLetters)
	if !ok || len(digits) != segmentDigits {
		return 0
	}
	number := 0
	for i := range len(digits) {
		if !isDigit(digits[i]) {
			return 0
		}
		number = number*10 + int(digits[i]-'0')
	}
	return number
}
