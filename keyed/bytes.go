package keyed

import (
	"incipit/api"
	"incipit/pack"
)

// What is read has at most so much.
const (
	mostSpots = 2
	mostKey   = 256 // bytes
)

// Bytes is b's bytes, and behind them those of what is shown.
func Bytes(b []byte, s api.Seen) []byte {
	out := pack.Num(b, uint64(s.Count), uint64(len(s.Spots)))
	for _, spot := range s.Spots {
		// Each by itself: what is packed is copied, and out may be long.
		out = append(out, spotBytes(spot)...)
	}
	return out
}

// Read cuts what is shown off from the front of a Cut; a fault, and nothing is cut off, if it does not stand there, or has more than may be read.
func Read(c *pack.Cut) api.Seen {
	if c.Err() != api.OK {
		return api.Seen{}
	}
	// A copy goes ahead, since a fault may come when some parts are cut off.
	ahead := *c
	seen := cutSeen(&ahead)
	if ahead.Err() != api.OK {
		c.Fail()
		return api.Seen{}
	}
	*c = ahead
	return seen
}

func spotBytes(spot api.Spot) []byte {
	b := pack.Num(nil, uint64(spot.At))
	b = pack.Blob(b, spot.Key, spot.Value)
	b = pack.Num(b, uint64(len(spot.Path)))
	return pack.Sums(b, spot.Path...)
}

func cutSeen(c *pack.Cut) api.Seen {
	seen := api.Seen{Count: int(c.Num(api.MaxId))}
	for range c.Num(mostSpots) {
		seen.Spots = append(seen.Spots, cutSpot(c))
	}
	return seen
}

func cutSpot(c *pack.Cut) api.Spot {
	spot := api.Spot{At: int(c.Num(api.MaxId))}
	spot.Key, spot.Value = c.Blob(mostKey), c.Blob(api.MaxProof)
	for range c.Num(api.MaxPath) {
		spot.Path = append(spot.Path, c.Sum())
	}
	return spot
}
