package column

import "sluicegate/api"

// knownName is what a known type is called: nothing, if it is none.
func knownName(t byte) string {
	names := [256]string{
		api.TypeDecimal:    "decimal",
		api.TypeTiny:       "tiny",
		api.TypeShort:      "short",
		api.TypeLong:       "long",
		api.TypeFloat:      "float",
		api.TypeDouble:     "double",
		api.TypeNull:       "null",
		api.TypeTimestamp:  "timestamp",
		api.TypeLongLong:   "long-long",
		api.TypeInt24:      "int24",
		api.TypeDate:       "date",
		api.TypeTime:       "time",
		api.TypeDateTime:   "date-time",
		api.TypeYear:       "year",
		api.TypeVarChar:    "var-char",
		api.TypeBit:        "bit",
		api.TypeJSON:       "json",
		api.TypeNewDecimal: "new-decimal",
		api.TypeEnum:       "enum",
		api.TypeSet:        "set",
		api.TypeTinyBlob:   "tiny-blob",
		api.TypeMediumBlob: "medium-blob",
		api.TypeLongBlob:   "long-blob",
		api.TypeBlob:       "blob",
		api.TypeVarString:  "var-string",
		api.TypeString:     "string",
		api.TypeGeometry:   "geometry",
	}
	return names[t]
}
