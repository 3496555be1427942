/- What chunk.chunkOf answers, of every kind. -/
import Derived.Test.YtlgfbcfogcmdbaaDoorCh3a
import Derived.Test.YtlgfbcfogcmdbaaDoorCh3b
import Derived.Test.YtlgfbcfogcmdbaaDoorCh3c
import Derived.Test.YtlgfbcfogcmdbaaDoorCh3d
import Derived.Test.YtlgfbcfogcmdbaaDoorCh3e
import Derived.Test.YtlgfbcfogcmdbaaDoorCh3f
import Derived.Test.YtlgfbcfogcmdbaaDoorCh3g
