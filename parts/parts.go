// Package parts is what the layers path and span have in common: a node as a proof has it, what it may be, its text, its bytes.
package parts

import (
	"bytes"

	"annals/api"
	"annals/arena"
	"annals/bits"
	"annals/texts"
)

// The last epoch that may be, how many bytes an identity may have, how many bits that are with their count, and how many a byte has.
const (
	maxEpoch = 1<<api.MaxHeight - 1
	maxID    = 255
	maxDepth = 2048
	byteBits = 8
)

// Of is a node of an arena as a part: a leaf, or a closed fork.
func Of(a *arena.Arena, n api.Node) api.Part {
	if n.Leaf {
		return api.Part{Kind: api.EndLeaf, ID: n.ID, Key: n.Key, Since: n.Since}
	}
	return api.Part{
		Kind: api.EndClosed, Depth: n.Depth, Prefix: n.Prefix, Newest: n.Newest,
		Left: a.Hash(n.Left), Right: a.Hash(n.Right),
	}
}

// IsSize tells whether a digest may have so many bytes.
func IsSize(size int) bool {
	return size >= 1 && size <= api.MaxSize
}

// IsEpoch tells whether there may be an epoch of that number.
func IsEpoch(n int) bool {
	return n >= 0 && n <= maxEpoch
}

// Shaped tells whether a part, its kids not looked at, has just what its kind has, within the limits.
func Shaped(size int, p api.Part) bool {
	hashes, kids := len(p.Left)+len(p.Right), len(p.Kids)
	switch p.Kind {
	case api.EndEmpty:
		return noLeaf(p) && noFork(p) && hashes == 0 && kids == 0
	case api.EndLeaf:
		return isLeaf(p) && noFork(p) && hashes == 0 && kids == 0
	case api.EndClosed:
		return noLeaf(p) && isFork(p) && len(p.Left) == size && len(p.Right) == size && kids == 0
	case api.EndOpen:
		return noLeaf(p) && isFork(p) && hashes == 0 && kids == 2
	}
	return false
}

// noLeaf tells whether a part has nothing that a leaf has.
func noLeaf(p api.Part) bool {
	return len(p.ID) == 0 && len(p.Key) == 0 && p.Since == 0
}

// noFork tells whether a part has nothing that each fork has.
func noFork(p api.Part) bool {
	return p.Depth == 0 && len(p.Prefix) == 0 && p.Newest == 0
}

// isLeaf tells whether what a leaf has is within the limits.
func isLeaf(p api.Part) bool {
	return len(p.ID) <= maxID && len(p.Key) <= api.MaxKey && IsEpoch(p.Since)
}

// isFork tells whether what each fork has is within the limits, and its prefix just as many bits as its depth tells.
func isFork(p api.Part) bool {
	return p.Depth >= 0 && p.Depth <= maxDepth && IsEpoch(p.Newest) &&
		len(p.Prefix) == (p.Depth+byteBits-1)/byteBits && bytes.Equal(p.Prefix, bits.First(p.Prefix, p.Depth))
}

// Text is the text that a part's hash is of; kids are the hashes of a fork's.
func Text(p api.Part, kids [2][]byte) []byte {
	switch p.Kind {
	case api.EndEmpty:
		return text(api.TagEmpty)
	case api.EndLeaf:
		return text(api.TagLeaf, p.ID, p.Key, texts.Number(p.Since))
	}
	return ForkText(p.Depth, p.Prefix, p.Newest, kids)
}

// ForkText is a fork's text: of prefix its first depth bits, and the hashes of its kids.
func ForkText(depth int, prefix []byte, newest int, kids [2][]byte) []byte {
	return text(api.TagNode, texts.Number(depth), bits.First(prefix, depth), texts.Number(newest), kids[0], kids[1])
}

// text is a text whose tag and lists are known to be within the limits.
func text(tag int, list ...[]byte) []byte {
	t, _ := texts.Text(tag, list...)
	return t
}
