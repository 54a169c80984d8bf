
import Derived.Test.YtpkoakafkfaehaaDoorAsCq
namespace Go.Proofs.YtpkoakafkfaehaaDoor
open Go.RowKit Go.Extern.Stop Go.Stop Go.Extern

end Go.Proofs.YtpkoakafkfaehaaDoor
