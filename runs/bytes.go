package runs

import (
	"bytes"

	"incipit/api"
	"incipit/pack"
)

// Put is b's bytes, and behind them those of parts.
func Put(b []byte, l ...api.Part) []byte {
	out := bytes.Clone(b)
	for _, p := range l {
		// Each by itself: what is packed is copied, and out may be long.
		out = append(out, partBytes(p)...)
	}
	return out
}

// Take cuts a part off from the front of a Cut; a fault, and nothing is cut off, if it does not stand there, does not look right, or has more than may be read.
func Take(c *pack.Cut) api.Part {
	if c.Err() != api.OK {
		return api.Part{}
	}
	// A copy goes ahead, since a fault may come when a piece is cut off.
	ahead := *c
	p := cutPart(&ahead)
	if ahead.Err() != api.OK {
		c.Fail()
		return api.Part{}
	}
	*c = ahead
	return p
}

func partBytes(p api.Part) []byte {
	b := pack.Num(nil, uint64(p.Count), uint64(p.At))
	b = append(b, chunkBytes(p.Chunk)...)
	b = append(b, pack.Num(nil, uint64(len(p.Path)))...)
	return append(b, pack.Sums(nil, p.Path...)...)
}

func chunkBytes(c api.Chunk) []byte {
	b := pack.Num(nil, uint64(c.From), uint64(c.To), uint64(len(c.List)))
	for _, e := range c.List {
		b = append(b, pack.Blob(pack.Num(nil, uint64(e.Id)), e.Body)...)
	}
	return b
}

func cutPart(c *pack.Cut) api.Part {
	p := api.Part{Count: int(c.Num(api.MaxId)), At: int(c.Num(api.MaxId))}
	p.From, p.To = cutId(c), cutId(c)
	for range c.Num(api.Block) {
		p.List = append(p.List, api.Entry{Id: cutId(c), Body: c.Blob(api.MaxBody)})
	}
	if !looksRight(p.Chunk) {
		c.Fail()
	}
	for range c.Num(api.MaxPath) {
		p.Path = append(p.Path, c.Sum())
	}
	return p
}

func cutId(c *pack.Cut) uint32 { return uint32(c.Num(api.MaxId)) }
