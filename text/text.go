// Package text reads what the texts of configurations and of scripts have in common.
package text

import (
	"iter"
	"strconv"
	"strings"
)

// Lines produces the lines of a text, without their line feeds, and whether each one has a line feed, which the last one may lack.
func Lines(s string) iter.Seq2[string, bool] {
	return func(yield func(string, bool) bool) {
		for s != "" {
			line, rest, ended := strings.Cut(s, "\n")
			if !yield(line, ended) {
				return
			}
			s = rest
		}
	}
}

// Number returns the number that a word is in decimal digits without leading zeros, or false if it is none, or above most.
func Number(s string, most uint64) (uint64, bool) {
	n, err := strconv.ParseUint(s, 10, 64)
	// A number has one form, so whatever was accepted beside it (a sign, leading zeros) shows.
	if err != nil || n > most || strconv.FormatUint(n, 10) != s {
		return 0, false
	}
	return n, true
}
