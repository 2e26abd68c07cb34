/- BitioWrites: the walk: any steps of writing. -/
import Derived.Test.YtlgnapapofgdfaaBitU
import Derived.Deep.DeepCutAuto
import Derived.Deep.CutBlock
namespace Go.Proofs.Ytlgnapapofgdfaa
set_option linter.unusedVariables false
open Go.RowKit
open Go.Proofs.Bit
attribute [local go_sem ↓] Go.wp_at_zero Go.wp_at_succ

/-- Steps that lie in a row. -/
def StepsAt (w : World) (b off n : Nat) (K N : Nat → Int) (V : Nat → Nat) (S : Nat → ByteArray) : Prop := ∀ i, i < n →
  (w.cell? ⟨b, off + i * 4, none⟩ = some (.int .u64 (K i)) ∧ w.cell? ⟨b, off + i * 4 + 1, none⟩ = some (.int .u32 (V i : Int)) ∧ w.cell? ⟨b, off + i * 4 + 2, none⟩ = some (.int .i64 (N i)) ∧ w.cell? ⟨b, off + i * 4 + 3, none⟩ = some (.string (S i))) ∧
  (0 ≤ K i ∧ K i ≤ 18446744073709551615) ∧ (-9223372036854775808 ≤ N i ∧ N i ≤ 9223372036854775807) ∧ V i < 4294967296 ∧ (S i).size ≤ 9223372036854775807

theorem Two.slot {w X : World} {N n : Nat} (h : Two w X N n) : ∃ A cap, X.cell? ⟨w.heap.size + 1, 0, none⟩ = some (.slice A n cap) ∧ X.frozen? ⟨w.heap.size + 1, 0, none⟩ = false := by
  obtain ⟨x, hr⟩ := h.rt
  obtain ⟨A, cap, rfl⟩ := own_form32 hr.own
  exact ⟨A, cap, hr.c0, hr.fr⟩

theorem cell_below {X W : World} (h : Below X.heap.size X W) {b o : Nat} {v : Value} (hc : X.cell? ⟨b, o, none⟩ = some v) : W.cell? ⟨b, o, none⟩ = some v :=
  (h.cell (p := ⟨b, o, none⟩) (World.block_lt_of_cell? _ _ hc)).trans hc

theorem askLen (w X : World) (N n : Nat) (h : Two w X N n) (hn : n ≤ 1048576) : Calls Try.prog 11 #[.pointer (some ⟨w.heap.size, 0, none⟩)] X fun e W => e = .returned (.int .i64 (n : Int)) ∧ Two w W N n ∧ Below X.heap.size X W :=
  (wlen _ _ N n X h.wt (by omega)).mono fun e W ⟨he, k, hk⟩ => ⟨he, by rw [hk]; exact h.drewN k, by rw [hk]; exact ⟨rfl, rfl, rfl, Nat.le_refl _, fun _ _ => rfl⟩⟩
theorem askBytes (w X : World) (N n : Nat) (h : Two w X N n) (hn : n ≤ 1048576) : Calls Try.prog 12 #[.pointer (some ⟨w.heap.size, 0, none⟩)] X fun e W => e = .returned (.string (bytesB N n)) ∧ Two w W N n ∧ Below X.heap.size X W :=
  (wbytes _ _ N n X h.wt (by omega)).mono fun e W ⟨he, hb⟩ => ⟨he, h.step hb, hb⟩
theorem askRef (w X : World) (N n : Nat) (h : Two w X N n) (hn : n ≤ 1048576) : Calls Try.prog 13 #[.pointer (some ⟨w.heap.size + 1, 0, none⟩)] X fun e W => e = .returned (.string (bytesB N n)) ∧ Two w W N n ∧ Below X.heap.size X W :=
  (rbytes _ _ N n X h.rt hn).mono fun e W ⟨he, hb⟩ => ⟨he, h.step hb, hb⟩

/-- The step's own block stays. -/
theorem Keep.cell {G T : Nat} {X Y : World} (h : Keep G T X Y) {g o : Nat} {cs : Array Value} (hc : X.heap[g]? = some (.cells cs 34 (0, 0))) (ht : 34 ≠ T) (hg : g ≠ G) : Y.heap[g]? = some (.cells cs 34 (0, 0)) := h.others g cs 34 _ hc ht hg

set_option maxRecDepth 100000 in
set_option maxHeartbeats 1000000 in
theorem writes (A : Option Addr) (b off len cap : Nat) (K N : Nat → Int) (V : Nat → Nat) (S : Nat → ByteArray) (w : World) (hl : len ≤ cap) (hcap : cap ≤ maxLen) (hb : 0 < len → A = some ⟨b, off, none⟩ ∧ b < w.heap.size) (hc : StepsAt w b off len K N V S) :
    Calls Try.prog 3 #[.slice A len cap] w fun e w' => e = .returned (.bool true) ∧ Below w.heap.size w w' := by
  have HC := hid hc
  have HB0 := hid hb
  clear hc hb
  unfold maxLen at hcap
  go_enter Try.func3, Try.ntmps3
  go_upto_region 1 with fail
  go_cut [0] (fun s1 wx => ∃ n : Nat, n ≤ 40 ∧ n ≤ len ∧ s1 = .slice A n cap ∧ wx = w)
  case first =>
    go_wp2
    all_goals go_meet
    · exact ⟨40, by omega, by omega, rfl, rfl⟩
    · exact ⟨len, by omega, by omega, rfl, rfl⟩
  case rest =>
    obtain ⟨n, hn40, hn, rfl, hw⟩ := hcut
    have hw' := hw.symm
    subst hw'
    clear hw
    go_wp2_with fail
    have HI := hid (two_new w)
    generalize (w.alloc (.cells #[.slice none 0 0, .int .u64 0, .int .i64 0] 26)).alloc (.cells #[.slice none 0 0] 29) = W0 at HI ⊢
    go_loopw [16] (fun i wr => ∃ k M m : Nat, k ≤ n ∧ m ≤ 500 * k ∧ i = .int .i64 k ∧ Two w wr M m) (fun i _ => n - (intOf i).toNat)
    case atStart => exact ⟨0, 0, 0, by omega, by omega, rfl, HI.out⟩
    case round =>
      obtain ⟨k, M, m, hk, hm, rfl, htwo⟩ := hrel
      have HW := hid htwo; clear htwo HI
      by_cases hlt : k < n
      · obtain ⟨rfl, hbw⟩ := HB0.out (by omega)
        obtain ⟨⟨c0, c1, c2, c3⟩, ⟨k0, k1⟩, ⟨n0, n1⟩, hv, hsz⟩ := HC.out k (by omega)
        have d0 : wr.cell? ⟨b, off + k * 4, none⟩ = some (.int .u64 (K k)) := (HW.out.below.cell (p := ⟨b, off + k * 4, none⟩) hbw).trans c0
        have d1 : wr.cell? ⟨b, off + k * 4 + 1, none⟩ = some (.int .u32 (V k : Int)) := (HW.out.below.cell (p := ⟨b, off + k * 4 + 1, none⟩) hbw).trans c1
        have d2 : wr.cell? ⟨b, off + k * 4 + 2, none⟩ = some (.int .i64 (N k)) := (HW.out.below.cell (p := ⟨b, off + k * 4 + 2, none⟩) hbw).trans c2
        have d3 : wr.cell? ⟨b, off + k * 4 + 3, none⟩ = some (.string (S k)) := (HW.out.below.cell (p := ⟨b, off + k * 4 + 3, none⟩) hbw).trans c3
        clear c0 c1 c2 c3
        generalize K k = κ at d0 k0 k1
        generalize V k = ν at d1 hv
        generalize N k = μ at d2 n0 n1
        generalize S k = σ at d3 hsz
        go_upto_region 8 with fail
        have HN := hid (heap_alloc_new wr (.cells #[.int .u64 κ, .int .u32 (ν : Int), .int .i64 μ, .string σ] 34))
        have HX := hid (HW.out.alloc (.cells #[.int .u64 κ, .int .u32 (ν : Int), .int .i64 μ, .string σ] 34))
        have HG := hid (show w.heap.size + 2 ≤ wr.heap.size from HW.out.big)
        generalize wr.alloc (.cells #[.int .u64 κ, .int .u32 (ν : Int), .int .i64 μ, .string σ] 34) = X at HN HX ⊢
        generalize wr.heap.size = G at HN HG ⊢
        clear HW d0 d1 d2 d3
        have e0 : X.cell? ⟨G, 0, none⟩ = some (.int .u64 κ) := by rw [cell_of_row _ _ _ _ _ _ HN.out]; rfl
        have e1 : X.cell? ⟨G, 1, none⟩ = some (.int .u32 (ν : Int)) := by rw [cell_of_row _ _ _ _ _ _ HN.out]; rfl
        have e2 : X.cell? ⟨G, 2, none⟩ = some (.int .i64 μ) := by rw [cell_of_row _ _ _ _ _ _ HN.out]; rfl
        have e3 : X.cell? ⟨G, 3, none⟩ = some (.string σ) := by rw [cell_of_row _ _ _ _ _ _ HN.out]; rfl
        go_cut [8] (fun v wx => ∃ τ : ByteArray, τ.size ≤ 50 ∧ v = .string τ ∧ wx = X)
        case first =>
          go_wp2
          all_goals go_meet
          · exact ⟨σ.extract 0 50, by simp; omega, rfl, rfl⟩
          · exact ⟨σ, by omega, rfl, rfl⟩
        case rest =>
          obtain ⟨τ, hτ, rfl, hw⟩ := hcut
          have hw' := hw.symm
          subst hw'
          clear hw e3 hsz
          go_upto_block 2 with fail
          go_cut [29] (fun _ wx => ∃ M' m' : Nat, m' ≤ 500 * (k + 1) ∧ Two w wx M' m')
          case first =>
            by_cases z0 : κ % 3 = 0
            · go_wp2_with fail
              refine (wbits (w.heap.size + 2) w.heap.size M m ν μ _ HX.out.wt HX.out.big hv n0 n1 (by omega)).mono ?_
              rintro e w1 ⟨rfl, h1, h2⟩
              have H1 := hid h1
              have H2 := hid h2
              have HN1 := hid (h2.others G _ 34 _ HN.out (by decide) (by have := HG.out; omega))
              clear h1 h2
              have f1 : w1.cell? ⟨G, 1, none⟩ = some (.int .u32 (ν : Int)) := by rw [cell_of_row _ _ _ _ _ _ HN1.out]; rfl
              have f2 : w1.cell? ⟨G, 2, none⟩ = some (.int .i64 μ) := by rw [cell_of_row _ _ _ _ _ _ HN1.out]; rfl
              go_wp2_with fail
              refine (rbits (w.heap.size + 2) (w.heap.size + 1) M m ν μ _ (HX.out.mid H2.out) (Nat.le_trans HX.out.big H2.out.below.size) hv n0 n1 (by omega)).mono ?_
              rintro e w2 ⟨rfl, h3, h4⟩
              have HN2 := hid (h4.others G _ 34 _ HN1.out (by decide) (by have := HG.out; omega))
              have HT := hid (HX.out.go H1.out H2.out h3 h4)
              clear h3 h4 f1 f2
              have f1 : w2.cell? ⟨G, 1, none⟩ = some (.int .u32 (ν : Int)) := by rw [cell_of_row _ _ _ _ _ _ HN2.out]; rfl
              have f2 : w2.cell? ⟨G, 2, none⟩ = some (.int .i64 μ) := by rw [cell_of_row _ _ _ _ _ _ HN2.out]; rfl
              go_wp2_with fail
              refine (wbits_nil _ _ _).mono ?_
              rintro e w3 ⟨rfl, rfl⟩
              go_wp2_with fail
              go_meet
              exact ⟨_, _, by have := manyN_le μ; omega, HT.out⟩
            · by_cases z1 : κ % 3 = 1
              · go_wp2_with fail
                refine (walign (w.heap.size + 2) w.heap.size M m _ HX.out.wt HX.out.big (by omega)).mono ?_
                rintro e w1 ⟨rfl, h1, h2⟩
                have H1 := hid h1
                have H2 := hid h2
                have HN1 := hid (h2.others G _ 34 _ HN.out (by decide) (by have := HG.out; omega))
                clear h1 h2
                go_wp2_with fail
                refine (ralign (w.heap.size + 2) (w.heap.size + 1) M m _ (HX.out.mid H2.out) (Nat.le_trans HX.out.big H2.out.below.size) (by omega)).mono ?_
                rintro e w2 ⟨rfl, h3, h4⟩
                have HN2 := hid (h4.others G _ 34 _ HN1.out (by decide) (by have := HG.out; omega))
                have HT := hid (HX.out.go H1.out H2.out h3 h4)
                clear h3 h4 
                go_wp2_with fail
                refine (walign_nil _).mono ?_
                rintro e w3 ⟨rfl, rfl⟩
                go_wp2_with fail
                go_meet
                exact ⟨_, _, by have := up8_le m; omega, HT.out⟩
              · go_wp2_with fail
                refine (wtext (w.heap.size + 2) w.heap.size M m τ _ HX.out.wt HX.out.big (by omega) (by omega)).mono ?_
                rintro e w1 ⟨rfl, h1, h2⟩
                have H1 := hid h1
                have H2 := hid h2
                have HN1 := hid (h2.others G _ 34 _ HN.out (by decide) (by have := HG.out; omega))
                clear h1 h2
                go_wp2_with fail
                refine (rtext (w.heap.size + 2) (w.heap.size + 1) M m τ _ (HX.out.mid H2.out) (Nat.le_trans HX.out.big H2.out.below.size) (by omega) (by omega)).mono ?_
                rintro e w2 ⟨rfl, h3, h4⟩
                have HN2 := hid (h4.others G _ 34 _ HN1.out (by decide) (by have := HG.out; omega))
                have HT := hid (HX.out.go H1.out H2.out h3 h4)
                clear h3 h4 
                go_wp2_with fail
                refine (wtext_nil _ _).mono ?_
                rintro e w3 ⟨rfl, rfl⟩
                go_wp2_with fail
                go_meet
                exact ⟨_, _, by have := up8_le m; omega, HT.out⟩
          case rest =>
            obtain ⟨M', m', hm', ht⟩ := hcut
            have HM := hid ht
            clear ht
            clear HN HX
            go_upto_region 21 with fail
            obtain ⟨A', cap', hc4, hf4⟩ := HM.out.slot
            have hm2 : m' ≤ 1048576 := by omega
            go_region_held3 (fun w' => w'.cell? ⟨w.heap.size + 1, 0, none⟩ = some (.slice A' m' cap')) (first | exact hc4 | exact H5.out | exact H6.out | exact H7.out | go_keep)
              (first
                | (go_at_call 11; refine (askLen w _ M' m' (by first | exact HM.out | exact HM.out.drew) hm2).mono ?_; rintro e w5 ⟨rfl, hl5, hb5⟩; have H5 := hid (cell_below hb5 (by exact hc4)); have HL := hid hl5; clear hl5 hb5)
                | (go_at_call 12; refine (askBytes w _ M' m' (by first | exact HL.out | exact HL.out.drew) hm2).mono ?_; rintro e w6 ⟨rfl, hl6, hb6⟩; have H6 := hid (cell_below hb6 (by exact H5.out)); have HP := hid hl6; clear hl6 hb6)
                | (go_at_call 13; refine (askRef w _ M' m' (by first | exact HP.out | exact HP.out.drew) hm2).mono ?_; rintro e w7 ⟨rfl, hl7, hb7⟩; have H7 := hid (cell_below hb7 (by exact H6.out)); have HQ := hid hl7; clear hl7 hb7))
            go_wp2_with fail
            go_roundw
            case rel => exact ⟨k + 1, M', m', by omega, hm', by go_num, by first | exact HQ.out | exact HQ.out.drewN _ | exact HQ.out.drew⟩
            case measure => simp [intOf]; omega
      · go_wp2_with fail
        refine (wlen_nil _).mono ?_
        rintro e w' ⟨rfl, rfl⟩
        go_wp2_with fail
        refine (wbytes_nil _).mono ?_
        rintro e w' ⟨rfl, rfl⟩
        go_wp2_with fail
        refine (lives _).mono ?_
        rintro e w7 ⟨rfl, h7⟩
        have H7 := hid h7; clear h7
        go_wp2_with fail
        go_ret
        exact ⟨rfl, HW.out.below.trans (H7.out.mono HW.out.below.size)⟩
end Go.Proofs.Ytlgnapapofgdfaa
