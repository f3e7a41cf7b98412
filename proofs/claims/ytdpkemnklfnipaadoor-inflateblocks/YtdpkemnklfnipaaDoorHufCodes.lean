/-
  What the decoder's texts lean on (in this program package huffman's Codes is not called).
-/
import Derived.Test.YtdpkemnklfnipaaDoorHufLeaf
import Derived.Deep.RegionWith
namespace Go.Proofs.YtdpkemnklfnipaaDoor
end Go.Proofs.YtdpkemnklfnipaaDoor
