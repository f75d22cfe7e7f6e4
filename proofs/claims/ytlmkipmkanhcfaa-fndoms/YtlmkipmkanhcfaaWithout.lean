/- The model's dominators: who is reached without a block, and the lists of those that dominate. -/
import Derived.Test.YtlmkipmkanhcfaaLists
namespace Go.Proofs.Ytlmkipmkanhcfaa
open Go.ChangeShapes Go.WideShapes Go.ChangeAt Go.RowKit Go.Shelf
set_option linter.unusedVariables false

theorem l3Left_gone (F : FnD) (v : Value) (W0 : World) (n : Nat) (hF : FnAt W0 v F) (hS : FnShape F) (hN : F.blocks.length = n) (gone : Nat) (hgn : gone ≠ 0) (ov : Value) (w : World) (g : Nat) (h0 : 0 < n) (h16 : n ≤ 16)
    (hg1 : gone < n) (hB : Below W0.heap.size W0 w) (hg : W0.heap.size ≤ g) (hs : SeenRow w g n [gone]) (ho : OwnInts w W0.heap.size ov []) :
    Calls Try.prog 69 #[v, .int .i64 0, .slice (some ⟨g, 0, none⟩) n n, ov] w fun e w' => GivesLeft W0.heap.size g n W0 ov (leave (succsN F) n 0 ([gone], [])) w e w' := by
  have hu : unseen n [gone] ≤ n := Nat.le_trans (unseen_sub (a := []) (by simp)) (by rw [unseen_nil]; exact Nat.le_refl _)
  exact l3Left_any F v W0 n hF hS hN n 0 ([gone], []) ov w g hB hg hs ho h0 (by simp; omega) hu (by simp; omega) ⟨by simp; omega, by simp⟩

set_option maxRecDepth 100000 in
set_option maxHeartbeats 4000000 in
theorem l4Without_any (v : Value) (F : FnD) (gone : Nat) (w : World) (hF : FnAt w v F) (hS : FnShape F) (hg : gone < F.blocks.length) :
    Calls Try.prog 74 #[v, .int .i64 (gone : Int)] w fun e w' => GivesSeen w F.blocks.length (Rea (succsN F) (· = gone)) e w' := by
  have HF : Hid (FnAt w v F) := hF
  have HS : Hid (FnShape F) := hS
  obtain ⟨n, HN⟩ : ∃ n, Hid (F.blocks.length = n) := ⟨_, rfl⟩
  obtain ⟨vals, HV⟩ : ∃ x, Hid (F.values = x) := ⟨_, rfl⟩
  obtain ⟨ba, bcap, rfl⟩ := hF.out HN.out HV.out
  have h16 : n ≤ 16 := by rw [← HN.out]; exact hS.2.1
  have h1 : 1 ≤ n := by rw [← HN.out]; exact hS.1
  rw [HN.out] at hg ⊢
  clear hF hS
  have hmk := make_bools n (by omega)
  by_cases hz : gone = 0
  · subst hz
    go_enter Try.func74, Try.ntmps74
    go_wp2_with fail
    go_ret
    refine ⟨_, [], rfl, by omega, seen_new (by simp), fun x hx => ?_, by repeat (first | exact Below.refl _ _ | apply Below.drew | refine Below.alloc ?_ (by simp <;> omega) _ | refine Below.setCell ?_ (by simp <;> omega) _)⟩
    simp only [List.not_mem_nil, false_iff]
    clear hx
    intro h
    induction h with
    | base h => exact h rfl
    | step _ _ _ ih => exact ih
  · have hzi : ((gone : Int) == 0) = false := by simp; exact hz
    have hgi : (gone : Int) < (n : Int) := by omega
    obtain ⟨wA, hwA⟩ : ∃ wA, (w.alloc (.cells #[.slice ba n bcap, .int .i64 vals] 26)).alloc (.cells (madeCells #[.bool false] n) 4) = wA := ⟨_, rfl⟩
    have hsA : wA.heap.size = w.heap.size + 2 := by rw [← hwA]; simp
    have HA : Hid (Below w.heap.size w wA) := by rw [← hwA]; repeat (first | exact Below.refl _ _ | apply Below.drew | refine Below.alloc ?_ (by simp <;> omega) _ | refine Below.setCell ?_ (by simp <;> omega) _)
    have SA : Hid (SeenRow wA (w.heap.size + 1) n []) := by rw [← hwA]; exact seen_new (by simp)
    have q1 : wA.cell? ⟨w.heap.size + 1, gone, none⟩ = some (.bool false) := by simpa using SA.out.cell hg
    have q2 := SA.out.frozen gone
    have c0 : wA.cell? ⟨w.heap.size, 0, none⟩ = some (.slice ba n bcap) := by rw [← hwA]; simp [go_sem]
    have c1 : wA.cell? ⟨w.heap.size, 1, none⟩ = some (.int .i64 vals) := by rw [← hwA]; simp [go_sem]
    go_enter Try.func74, Try.ntmps74
    go_wp2_with fail
    obtain ⟨wB, hwB⟩ : ∃ wB, (wA.setCell ⟨w.heap.size + 1, gone, none⟩ (.bool true)).alloc (.cells #[] 3) = wB := ⟨_, rfl⟩
    have SB : Hid (SeenRow wB (w.heap.size + 1) n [gone]) := by rw [← hwB]; exact (SA.out.put gone).later (Bel.alloc _ _)
    have OB : Hid (OwnInts wB w.heap.size (.slice (some ⟨w.heap.size + 2, 0, none⟩) 0 0) []) := by rw [← hwB]; exact ownInts_nil (by simp; omega) (by omega)
    have BB : Hid (Below w.heap.size w wB) := by rw [← hwB]; exact (HA.out.setCell (p := ⟨w.heap.size + 1, gone, none⟩) (by show w.heap.size ≤ w.heap.size + 1; omega) _).trans ((Bel.alloc _ _).mono (by have := HA.out.size; simpa using this))
    rw [hwB]
    clear hwB q1 q2 hmk c0 c1 hwA
    refine (l3Left_gone F _ w n HF.out HS.out HN.out gone hz _ _ (w.heap.size + 1) (by omega) h16 hg BB.out (by omega) SB.out OB.out).mono ?_
    rintro e w3 ⟨o', rfl, o3, s3, b3, f3, n3⟩
    obtain ⟨L, HL⟩ : ∃ L, Hid ((leave (succsN F) n 0 ([gone], [])).1 = L) := ⟨_, rfl⟩
    rw [HL.out] at s3
    have S3 : Hid (SeenRow w3 (w.heap.size + 1) n L) := s3
    have B3 : Hid (Below w.heap.size w w3) := b3
    have q1 := s3.cell hg
    have q2 := s3.frozen gone
    clear o3 s3 b3 f3 n3
    go_wp2_with fail
    go_ret
    refine ⟨_, L.filter (fun x => decide (x ≠ gone)), rfl, by omega, S3.out.store gone false (fun i hi => ?_), fun x hx => ?_, B3.out.setCell (p := ⟨w.heap.size + 1, gone, none⟩) (by show w.heap.size ≤ w.heap.size + 1; omega) _⟩
    · by_cases e : i = gone <;> simp [e]
    · have h0 : 0 ∉ [gone] := by simp; omega
      have hr := leave_rea (n := n) (by rw [← HN.out]; exact succs_in HS.out) (by omega) [gone] h0 [] (Nat.le_refl n) x
      rw [HL.out] at hr
      rw [List.mem_filter, hr]
      constructor
      · rintro ⟨h | h, h2⟩
        · simp at h h2
          exact absurd h h2
        · exact h.mono (by simp)
      · intro h
        exact ⟨.inr (h.mono (by simp)), by simpa using h.not⟩
end Go.Proofs.Ytlmkipmkanhcfaa
