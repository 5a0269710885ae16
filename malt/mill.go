package malt

import "wormtub/api"

// Dust returns how much dust is in the air of a mill so many minutes later, or MaxDust
// if there was more than that on the way.
func Dust(m api.Mill, minutes int) (int, api.Errno) {
	if !validMill(m) {
		return 0, api.ErrArg
	}
	if minutes < 0 || minutes > api.MaxDay {
		return 0, api.ErrRange
	}
	dust := m.First
	for range minutes {
		dust = minuteLater(m, dust)
		if dust > api.MaxDust {
			return api.MaxDust, api.OK
		}
	}
	return dust, api.OK
}

// Harm returns the first minute at which there is more dust than the limit, or ErrNone
// if there never is.
func Harm(m api.Mill) (int, api.Errno) {
	if !validMill(m) {
		return 0, api.ErrArg
	}
	if m.Drawn == 0 && m.Made > 0 && m.First <= m.Limit {
		// So steady a rise could take too many minutes to go through. Any other one
		// slows down by a milligram for every 10000 milligrams of dust at least, and
		// ends within some hundred thousand minutes.
		return (m.Limit-m.First)/m.Made + 1, api.OK
	}
	dust := m.First
	for minute := 0; ; minute++ {
		if dust > m.Limit {
			return minute, api.OK
		}
		later := minuteLater(m, dust)
		// Less dust never becomes more than what more dust becomes: once it does not
		// rise, it never does again.
		if later <= dust {
			return 0, api.ErrNone
		}
		dust = later
	}
}

// minuteLater returns how much dust there is a minute later.
func minuteLater(m api.Mill, dust int) int {
	return up((api.Whole-m.Drawn)*dust, api.Whole) + m.Made
}

// validMill tells whether the numbers of a mill are within their limits.
func validMill(m api.Mill) bool {
	for _, dust := range [...]int{m.First, m.Made, m.Limit} {
		if dust < 0 || dust > api.MaxDust {
			return false
		}
	}
	return m.Drawn >= 0 && m.Drawn <= api.Whole
}
