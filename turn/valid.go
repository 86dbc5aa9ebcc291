package turn

import "huer/api"

// validBook tells whether a book has the form that all functions need.
func validBook(b api.TurnBook) bool {
	return 1 <= b.Companies && b.Companies <= api.TurnCompanies &&
		validBounds(b.Bounds) && validOrders(b) && validShots(b)
}

// validBounds tells whether there are not too many bounds, each of them valid and later than the one before it.
func validBounds(bounds []api.Span) bool {
	if len(bounds) > api.TurnBounds {
		return false
	}
	past := -1
	for _, bound := range bounds {
		if !moment(bound).valid() || bound.Low <= past {
			return false
		}
		past = bound.High
	}
	return true
}

// validOrders tells whether there is a right number of stations, each with a company for each turn.
func validOrders(b api.TurnBook) bool {
	if len(b.Orders) < 1 || len(b.Orders) > api.TurnStations {
		return false
	}
	for _, order := range b.Orders {
		if len(order) != len(b.Bounds)+1 {
			return false
		}
		for _, company := range order {
			if !isNumber(company, b.Companies) {
				return false
			}
		}
	}
	return true
}

// validShots tells whether there are not too many shots, all of them valid.
func validShots(b api.TurnBook) bool {
	if len(b.Shots) > api.TurnShots {
		return false
	}
	for _, shot := range b.Shots {
		if !isStation(b, shot.Station) || !isNumber(shot.Company, b.Companies) || !moment(shot.At).valid() {
			return false
		}
	}
	return true
}

// isNumber tells whether a number is that of one of so many things.
func isNumber(number, many int) bool { return 0 <= number && number < many }

// isMinute tells whether a number is one of a minute of the day.
func isMinute(minute int) bool { return isNumber(minute, api.TurnMinutes) }

// isStation tells whether a number is that of a station.
func isStation(b api.TurnBook, station int) bool { return isNumber(station, len(b.Orders)) }

// isShot tells whether a number is that of a shot.
func isShot(b api.TurnBook, shot int) bool { return isNumber(shot, len(b.Shots)) }
