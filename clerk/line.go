package clerk

import (
	"iter"
	"strings"

	"huer/api"
)

// lineEnd is the byte at the end of each line of a file.
const lineEnd = '\n'

// require fails with an error unless something is so. Do and Open recover from it.
func require(is bool, e api.Errno) {
	if !is {
		panic(e)
	}
}

// errorOf returns the error with which a line failed.
func errorOf(reason any) api.Errno {
	if e, is := reason.(api.Errno); is {
		return e
	}
	return api.ErrClerkLine // nothing else should fail; if it does, this line cannot be done
}

// checkFile returns the error of a file that cannot be cut into lines.
func checkFile(file string) api.Errno {
	switch {
	case len(file) > api.MaxText:
		return api.ErrLong
	case len(file) > 0 && file[len(file)-1] != lineEnd:
		return api.ErrForm
	}
	return api.OK
}

// linesOf goes through the lines of a file.
func linesOf(file string) iter.Seq[string] {
	return func(yield func(string) bool) {
		start := 0
		for at := range len(file) {
			if file[at] != lineEnd {
				continue
			}
			if !yield(file[start:at]) {
				return
			}
			start = at + 1
		}
	}
}

// tokensOf returns what reads a line token by token, and tells whether there was one more.
func tokensOf(line string) func() (string, bool) {
	rest, more := line, true
	return func() (string, bool) {
		token, is := rest, more
		if is {
			token, rest, more = strings.Cut(rest, " ")
		}
		return token, is
	}
}

// numberOf returns the number that a token tells; it fails if that is none.
func numberOf(token string) int {
	require(0 < len(token) && len(token) <= api.ClerkDigits, api.ErrClerkLine)
	require(len(token) == 1 || token[0] != '0', api.ErrClerkLine)
	number := 0
	for at := range len(token) {
		require(isDigit(token[at]), api.ErrClerkLine)
		number = 10*number + int(token[at]-'0')
	}
	return number
}
