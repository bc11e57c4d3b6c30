// Package number: numbers in lines, for all packages that read lines.
package number

import (
	"strconv"

	"demurrage/api"
)

const maxDigits = 18 // so that each number fits into a word

// Read returns the number from 0 on that a text contains.
func Read(s string) (int, api.Errno) {
	if len(s) > maxDigits {
		return 0, api.ErrForm
	}
	n, err := strconv.Atoi(s)
	if err != nil || n < 0 || strconv.Itoa(n) != s { // Atoi also takes a + and leading zeros
		return 0, api.ErrForm
	}
	return n, api.OK
}
