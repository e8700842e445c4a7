/- The contract of strconv.ParseUint at sixteen and eight bits, over two signs. -/
import Derived.Test.YtbbdifcmhoobaaaGreatDoorChT
import Derived.Test.YtbbdifcmhoobaaaGreatDoorErsP
import Derived.Lib.ItoaWalk
namespace Go.Proofs.YtbbdifcmhoobaaaGreatDoor
open Go.RowKit Go.Shelf Go.Lib

set_option maxHeartbeats 4000000 in
set_option maxRecDepth 100000 in
theorem pint8_any (t : ByteArray) (h2 : t.size = 2) (w : World) (hE : Errs w) :
    Calls Tryz.prog 37 #[.string t, .int .i64 16, .int .i64 8] w (puiPost (par16 0 t.data.toList) w) := by
  have cI := parse8_any t h2 w
  have HE := Lib.hid hE
  clear hE
  generalize par16 0 t.data.toList = O at *
  cases O with
  | ok n =>
    go_enter Tryz.func37, Tryz.ntmps37
    go_wp2_with fail
    refine cI.mono ?_
    rintro e w1 ⟨rfl, hb1⟩
    unfold uin16
    go_wp2_with fail
    exact bodyPost_ret (v := .tuple #[.int .u64 n, .nilIface]) (by simp [results, Tryz.results37, go_sem]) rfl ⟨hb1, rfl⟩
  | error b =>
    cases b
    · go_enter Tryz.func37, Tryz.ntmps37
      go_wp2_with fail
      refine cI.mono ?_
      rintro e w1 ⟨rfl, hb1⟩
      obtain ⟨_, e1, h1, g1⟩ := HE.out.below hb1
      unfold uin16
      go_wp2_with fail
      refine (Tryz.strconv_toError_range _ t _ _ e1 w1 (by omega) h1 g1).mono ?_
      rintro e w2 ⟨N, rfl, _, _, hb2⟩
      go_wp2_with fail
      exact bodyPost_ret (v := .tuple #[.int .u64 18446744073709551615, .iface 81 (.pointer (some ⟨N, 0, none⟩))]) (by simp [results, Tryz.results37, go_sem]) rfl ⟨hb1.trans (hb2.mono hb1.size), _, N, rfl⟩
    · go_enter Tryz.func37, Tryz.ntmps37
      go_wp2_with fail
      refine cI.mono ?_
      rintro e w1 ⟨rfl, hb1⟩
      obtain ⟨⟨e1, h1, g1⟩, _⟩ := HE.out.below hb1
      unfold uin16
      go_wp2_with fail
      refine (Tryz.strconv_toError_syntax _ t _ _ e1 w1 (by omega) h1 g1).mono ?_
      rintro e w2 ⟨N, rfl, _, _, hb2⟩
      go_wp2_with fail
      exact bodyPost_ret (v := .tuple #[.int .u64 0, .iface 81 (.pointer (some ⟨N, 0, none⟩))]) (by simp [results, Tryz.results37, go_sem]) rfl ⟨hb1.trans (hb2.mono hb1.size), 0, N, rfl⟩

end Go.Proofs.YtbbdifcmhoobaaaGreatDoor
