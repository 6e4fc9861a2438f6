package addr

import "bedrock/api"

const (
	soon       = 600    // seconds that an address's time may be ahead of the clock
	rest       = 60     // seconds behind a try in which no address is terrible
	fewFails   = 3      // that make an address terrible that never answered
	manyFails  = 10     // that make one terrible that did, once it is longSilent
	longSilent = 604800 // seconds
)

// Terrible tells whether an address is terrible.
func (b *Book) Terrible(a api.Net, now uint32) bool {
	known := b.find(a)
	return known != nil && isTerrible(*known, now)
}

// isTerrible counts in 64 bits, as no sum of seconds has a bound.
func isTerrible(known api.Known, now uint32) bool {
	clock, told := uint64(now), uint64(known.Net.Time)
	if known.Tried != 0 && clock < uint64(known.Tried)+rest {
		return false
	}
	if told > clock+soon || clock > told+api.MaxAge {
		return true
	}
	if known.Last == 0 {
		return known.Fails >= fewFails
	}
	return clock > uint64(known.Last)+longSilent && known.Fails >= manyFails
}

// Pick is an address by a lot.
func (b *Book) Pick(lot uint64, now uint32, tried bool) (api.Net, bool) {
	for _, known := range from(lot, b.All()) {
		if !isTerrible(known, now) && (known.InTried || !tried) {
			return known.Net, true
		}
	}
	return api.Net{}, false
}

// Some is some addresses, to be told.
func (b *Book) Some(lot uint64, now uint32, most int) []api.Net {
	var fit []api.Known
	for _, known := range b.All() {
		if !isTerrible(known, now) {
			fit = append(fit, known)
		}
	}
	many := max(min(most, (len(fit)+3)/4), 0)
	var some []api.Net
	for _, known := range from(lot, fit)[:many] {
		some = append(some, known.Net)
	}
	return some
}

// from is a list from the one on that a lot draws, around.
func from(lot uint64, all []api.Known) []api.Known {
	if len(all) == 0 {
		return nil
	}
	first := lot % uint64(len(all))
	around := append([]api.Known{}, all[first:]...)
	return append(around, all[:first]...)
}
