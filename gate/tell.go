package gate

import (
	"strconv"
	"strings"

	"stowage/api"
	"stowage/meta"
	"stowage/percent"
	"stowage/route"
)

// Tell is what a machine answers to what reads: an object without its bytes, but with its pieces.
func Tell(m *meta.Machine, w api.Want) (api.Reply, []api.Piece) {
	r := api.Reply{Leader: nobody}
	switch w.Kind {
	case api.WantBuckets:
		r.Body = route.Lines(m.Buckets())
	case api.WantKeys:
		items, more, e := m.List(w.Bucket, w.Prefix, w.Delimiter, w.After, w.Most)
		r.Code, r.Body = e, route.Items(items, more)
	case api.WantUploads:
		l, e := m.Uploads(w.Bucket)
		r.Code, r.Body = e, uploadLines(l)
	case api.WantParts:
		l, e := m.Parts(w.Bucket, w.Key, w.ID)
		r.Code, r.Body = e, partLines(l)
	case api.WantRead:
		v, e := m.Get(w.Bucket, w.Key, w.ID)
		r.Code, r.ID, r.Sum = e, v.ID, v.Sum
		if !w.Head {
			return r, v.Pieces
		}
	default:
		r.Code = api.ErrArg
	}
	return r, nil
}

// uploadLines has a line for each upload.
func uploadLines(l []api.Upload) string {
	var told strings.Builder
	for _, u := range l {
		told.WriteString(strconv.Itoa(u.ID) + " " + percent.Name(u.Key) + "\n")
	}
	return told.String()
}

// partLines has a line for each part.
func partLines(l []api.Part) string {
	var told strings.Builder
	for _, p := range l {
		told.WriteString(strconv.Itoa(p.N) + " " + strconv.Itoa(p.Size) + " " + p.Sum + "\n")
	}
	return told.String()
}
