package bulk

import "huer/api"

// wasteWide is how far the ends of the waste of a lot are apart, at most. (Package api has no name for it.)
const wasteWide = 5

// validBook tells whether a book has the form that all functions need.
func validBook(b api.BulkBook) bool {
	return validMeasures(b) && validLots(b.Lots)
}

// validMeasures tells whether what measures hold, and what counts can be wrong by, is within its limits.
func validMeasures(b api.BulkBook) bool {
	for kind, holds := range b.Holds {
		if !validSpan(holds, 1, api.BulkHolds, api.BulkWide) || !isWithin(b.Error[kind], 0, api.BulkError) {
			return false
		}
	}
	return true
}

// validLots tells whether there are not too many lots, all of them valid.
func validLots(lots []api.BulkLot) bool {
	if len(lots) > api.BulkLots {
		return false
	}
	for _, lot := range lots {
		if !validLot(lot) {
			return false
		}
	}
	return true
}

// validLot tells whether a lot has its numbers within their limits.
func validLot(lot api.BulkLot) bool {
	for _, told := range lot.Told {
		if told != api.BulkNone && !isWithin(told, 0, api.BulkCount) {
			return false
		}
	}
	return validSpan(lot.Waste, 0, api.BulkWaste, wasteWide)
}

// validSpan tells whether both ends of a span are from one number to another one, in their order and not too far apart.
func validSpan(s api.Span, from, to, apart int) bool {
	return isWithin(s.Low, from, to) && isWithin(s.High, from, to) && s.Low <= s.High && s.High-s.Low <= apart
}

// isWithin tells whether a number is from one to another one.
func isWithin(number, from, to int) bool { return from <= number && number <= to }

// isKind tells whether a number is one of a kind.
func isKind(kind int) bool { return isWithin(kind, api.BulkBarrow, api.BulkCask) }
