/- Contracts of package limb's isText and Parse at texts that are no Int's. -/
import Derived.Test.YtlbijchbngnmmaaDoorB
import Derived.Test.YtlbijchbngnmmaaDoorShelf
namespace Go.Proofs.YtlbijchbngnmmaaDoor
open Go.RowKit

theorem trim_minus0 (w : World) : Calls Tryd.prog 82 #[.string ⟨#[45, 48]⟩, .string ⟨#[45]⟩] w fun e w' => e = .returned (.string ⟨#[48]⟩) ∧ w = w' :=
  (Tryd.strings_TrimPrefix ⟨#[45, 48]⟩ ⟨#[45]⟩ w).mono fun _ _ ⟨he, hw⟩ => ⟨by rw [he]; rfl, hw.symm⟩
theorem trim_007 (w : World) : Calls Tryd.prog 82 #[.string ⟨#[48, 48, 55]⟩, .string ⟨#[45]⟩] w fun e w' => e = .returned (.string ⟨#[48, 48, 55]⟩) ∧ w = w' :=
  (Tryd.strings_TrimPrefix ⟨#[48, 48, 55]⟩ ⟨#[45]⟩ w).mono fun _ _ ⟨he, hw⟩ => ⟨by rw [he]; rfl, hw.symm⟩
set_option maxHeartbeats 400000 in
theorem isText_minus0 (w : World) : Calls Tryd.prog 60 #[.string ⟨#[45, 48]⟩] w fun e w' => e = .returned (.bool false) ∧ w = w' := by
  go_enter Tryd.func60, Tryd.ntmps60
  go_wp2_with fail
  refine (trim_minus0 _).mono ?_
  rintro e w' ⟨rfl, rfl⟩
  go_wp2
  go_outline
  go_ways
  go_ret
  exact ⟨rfl, rfl⟩
set_option maxHeartbeats 400000 in
theorem isText_007 (w : World) : Calls Tryd.prog 60 #[.string ⟨#[48, 48, 55]⟩] w fun e w' => e = .returned (.bool false) ∧ w = w' := by
  go_enter Tryd.func60, Tryd.ntmps60
  go_wp2_with fail
  refine (trim_007 _).mono ?_
  rintro e w' ⟨rfl, rfl⟩
  go_wp2
  go_ret
  exact ⟨rfl, rfl⟩
set_option maxHeartbeats 400000 in
theorem parse_no (s : ByteArray) (w : World) (h : ∀ w, Calls Tryd.prog 60 #[.string s] w fun e w' => e = .returned (.bool false) ∧ w = w') :
    Calls Tryd.prog 37 #[.string s] w fun e w' => e = .returned (.tuple #[iv false 0 0 0 0, .int .i64 111]) ∧ Below w.heap.size w w' := by
  have H := Lib.hid h; clear h
  have hnot : ∀ (x : Bool) (w : World), (Op.unary .not (.bool x)).run Tryd.prog w = .ok (.bool (!x)) w := fun _ _ => rfl
  go_enter Tryd.func37, Tryd.ntmps37
  go_wp2_with fail
  refine (H.out _).mono ?_
  rintro e w' ⟨rfl, rfl⟩
  go_wp2
  exact bodyPost_ret (v := .tuple #[iv false 0 0 0 0, .int .i64 111]) (by simp [results, Tryd.results37, go_sem]) rfl ⟨rfl, ((Below.refl w.heap.size w).alloc (Nat.le_refl _) _).alloc (by simp) _⟩
end Go.Proofs.YtlbijchbngnmmaaDoor
