package clerk

import (
	"slices"

	"huer/api"
	"huer/bulk"
	"huer/cry"
	"huer/seine"
)

// validSetup tells whether a clerk can be made with a setup.
func validSetup(s api.ClerkSetup) bool {
	return validBay(s.Cry) &&
		seine.Check(api.SeineBook{Inclosed: s.Inclosed}) == api.OK &&
		bulk.Check(api.BulkBook{Holds: s.Holds, Error: s.Error}) == api.OK &&
		validNames(s.Names)
}

// validBay tells whether nothing was cried in a bay yet, and a shoal can be in it.
func validBay(b api.CryBook) bool {
	if len(b.Cries) > 0 {
		return false
	}
	is, e := cry.Right(b)
	return is && e == api.OK
}

// validNames tells whether there are not too many names, all of them valid, no two the same.
func validNames(names []string) bool {
	if len(names) > api.ClerkNames {
		return false
	}
	for number, name := range names {
		if !isName(name) || slices.Contains(names[:number], name) {
			return false
		}
	}
	return true
}

// isName tells whether a text is a name: a small letter, then small letters and digits.
func isName(text string) bool {
	if len(text) == 0 || len(text) > api.MaxName || isDigit(text[0]) {
		return false
	}
	for at := range len(text) {
		if !isSmall(text[at]) && !isDigit(text[at]) {
			return false
		}
	}
	return true
}

// isSmall tells whether a byte is a small letter.
func isSmall(b byte) bool { return 'a' <= b && b <= 'z' }

// isDigit tells whether a byte is a decimal digit.
func isDigit(b byte) bool { return '0' <= b && b <= '9' }
