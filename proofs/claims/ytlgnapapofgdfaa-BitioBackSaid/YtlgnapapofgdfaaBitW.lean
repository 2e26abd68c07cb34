/- BitioBack: the walk. -/
import Derived.Test.YtlgnapapofgdfaaBitJ
namespace Go.Proofs.Ytlgnapapofgdfaa
set_option linter.unusedVariables false
open Go.RowKit Go.Shelf
open Go.Proofs.Bit
attribute [local go_sem] Oper.semAt_some

/-- Behind the bytes: a writer of none, the number that came in, a reader. -/
structure Aft (w W : World) (most : Int) (g : Nat) (s : ByteArray) (p : Nat) : Prop where
  two : W.heap[w.heap.size + 2]? = some (.cells #[.slice none 0 0, .int .u64 0, .int .i64 0] 26 (0, 0))
  box : W.heap[w.heap.size]? = some (.cells #[.int .u64 most] 31 (0, 0))
  below : Below w.heap.size w W
  big : w.heap.size + 3 ≤ g
  rd : Rd W g s p
theorem Aft.step {w W W' : World} {most : Int} {g p : Nat} {s : ByteArray} (h : Aft w W most g s p) (hb : Below W.heap.size W W') : Aft w W' most g s p := by
  have hl := h.rd.lt
  have hg := h.big
  exact ⟨(hb.block _ (by omega)).trans h.two, (hb.block _ (by omega)).trans h.box, h.below.trans (hb.mono h.below.size), hg, (hb.block _ hl).trans h.rd⟩
theorem Aft.alloc {w W : World} {most : Int} {g p : Nat} {s : ByteArray} (h : Aft w W most g s p) (o : Obj) : Aft w (W.alloc o) most g s p := h.step ((Below.refl _ _).alloc (Nat.le_refl _) o)
theorem Aft.go {w W W' : World} {most : Int} {g p q : Nat} {s : ByteArray} (h : Aft w W most g s p) (hl : Left W g s q W') : Aft w W' most g s q := by
  have hlt := h.rd.lt
  have hg := h.big
  exact ⟨(hl.only.block _ (by omega) (by omega)).trans h.two, (hl.only.block _ (by omega) (by omega)).trans h.box, hl.only.below h.below (by omega), hg, hl.rd⟩
theorem Mid.aft {w W : World} {most : Int} {N n : Nat} (h : Mid w W most N n) (s : ByteArray) : Aft w (W.alloc (.cells #[.string s, .int .i64 0, .bool false] 51)) most W.heap.size s 0 := by
  have hg := h.big
  exact ⟨(h.alloc _).two, (h.alloc _).box, (h.alloc (.cells #[.string s, .int .i64 0, .bool false] 51)).below, hg, heap_alloc_new _ _⟩
theorem bytesB_size (N n : Nat) : (bytesB N n).size = (n + 7) / 8 := by
  show (putL N ((n + 7) / 8)).toArray.size = _
  rw [List.size_toArray, putL_length]
theorem bytesB_get (N n i : Nat) (h : i < (bytesB N n).size) : ((bytesB N n)[i]).toNat = N / 256 ^ i % 256 := by
  have h2 : i < (n + 7) / 8 := by rw [← bytesB_size N n]; exact h
  have h3 : (bytesB N n)[i] = UInt8.ofNat (N / 256 ^ i % 256) := putL_get N ((n + 7) / 8) i h2
  rw [h3]
  simp

set_option maxRecDepth 100000 in
set_option maxHeartbeats 1000000 in
theorem back (A : Option Addr) (b off len cap : Nat) (K N : Nat → Int) (V : Nat → Nat) (S : Nat → ByteArray) (s : ByteArray) (most : Int) (w : World) (hl : len ≤ cap) (hcap : cap ≤ maxLen) (hs : s.size ≤ maxLen) (hb : 0 < len → A = some ⟨b, off, none⟩ ∧ b < w.heap.size) (hc : StepsAt w b off len K N V S) (hm0 : 0 ≤ most) :
    Calls Try.prog 4 #[.slice A len cap, .string s, .int .u64 most] w fun e w' => e = .returned (.bool true) ∧ Below w.heap.size w w' := by
  refine (callsIn_wide (n := 8)).1 ?_
  refine callsIn_of_wp_marks Try.func4 rfl trivial ?_ rfl
  simp only [Try.ntmps4, List.size_toArray, List.length_cons, List.length_nil, Nat.reduceAdd, Nat.reduceSub, Array.replicate_succ, Array.replicate_zero, List.push_toArray, List.append_toArray, List.nil_append, List.cons_append]
  have HC := hid hc
  have HB0 := hid hb
  have HM0 := hid hm0
  clear hc hb hm0
  unfold maxLen at hcap hs
  gi_upto_region 1 with fail
  gi_cut [0, 1] from 149 (fun s1 s2 wx => ∃ (n : Nat) (τ : ByteArray), n ≤ 40 ∧ n ≤ len ∧ s1 = .slice A n cap ∧ τ.size ≤ 200 ∧ s2 = .string τ ∧ wx = (w.alloc (.cells #[.int .u64 most] 31)).drew)
  case first =>
    gi_region
    all_goals gi_wp2
    all_goals gi_meet
    · exact ⟨40, s.extract 0 200, by omega, by omega, rfl, by simp; omega, rfl, rfl⟩
    · exact ⟨40, s, by omega, by omega, rfl, by omega, rfl, rfl⟩
    · exact ⟨len, s.extract 0 200, by omega, by omega, rfl, by simp; omega, rfl, rfl⟩
    · exact ⟨len, s, by omega, by omega, rfl, by omega, rfl, rfl⟩
  case rest =>
    obtain ⟨n, τ, hn40, hn, rfl, hτ, rfl, hw⟩ := hcut
    subst hw
    gi_wp2_with fail
    have HI := hid ((mid_new w most).step (Below.refl _ _).drew)
    generalize (((w.alloc (.cells #[.int .u64 most] 31)).alloc (.cells #[.slice none 0 0, .int .u64 0, .int .i64 0] 26)).alloc (.cells #[.slice none 0 0, .int .u64 0, .int .i64 0] 26)).drew = W0 at HI ⊢
    gi_loopw [33] (fun i wr => ∃ k : Nat, k ≤ n ∧ (st K N V (fun j => cut50 (S j)) k).2 ≤ 500 * k ∧ i = .int .i64 k ∧ Mid w wr most (st K N V (fun j => cut50 (S j)) k).1 (st K N V (fun j => cut50 (S j)) k).2) (fun i _ => n - (intOf i).toNat)
    case atStart => exact ⟨0, by omega, Nat.le_refl _, rfl, HI.out⟩
    case round =>
      obtain ⟨k, hk, hm, rfl, hmid⟩ := hrel
      have HW := hid hmid
      clear hmid HI
      have hst := st_text K N V (fun j => cut50 (S j)) k
      have hsb := st_bits K N V (fun j => cut50 (S j)) k
      have HT := hid hst
      have HS := hid hsb
      clear hst hsb
      by_cases hlt : k < n
      · obtain ⟨rfl, hbw⟩ := HB0.out (by omega)
        obtain ⟨⟨c0, c1, c2, c3⟩, ⟨k0, k1⟩, ⟨n0, n1⟩, hv, hsz⟩ := HC.out k (by omega)
        have d0 : wr.cell? ⟨b, off + k * 4, none⟩ = some (.int .u64 (K k)) := (HW.out.below.cell (p := ⟨b, off + k * 4, none⟩) hbw).trans c0
        have d1 : wr.cell? ⟨b, off + k * 4 + 1, none⟩ = some (.int .u32 (V k : Int)) := (HW.out.below.cell (p := ⟨b, off + k * 4 + 1, none⟩) hbw).trans c1
        have d2 : wr.cell? ⟨b, off + k * 4 + 2, none⟩ = some (.int .i64 (N k)) := (HW.out.below.cell (p := ⟨b, off + k * 4 + 2, none⟩) hbw).trans c2
        have d3 : wr.cell? ⟨b, off + k * 4 + 3, none⟩ = some (.string (S k)) := (HW.out.below.cell (p := ⟨b, off + k * 4 + 3, none⟩) hbw).trans c3
        clear c0 c1 c2 c3
        gi_upto_region 6 with fail
        have HN := hid (heap_alloc_new wr (.cells #[.int .u64 (K k), .int .u32 (V k : Int), .int .i64 (N k), .string (S k)] 34))
        have HX := hid (HW.out.alloc (.cells #[.int .u64 (K k), .int .u32 (V k : Int), .int .i64 (N k), .string (S k)] 34))
        have HG := hid (show w.heap.size + 3 ≤ wr.heap.size from HW.out.big)
        generalize wr.alloc (.cells #[.int .u64 (K k), .int .u32 (V k : Int), .int .i64 (N k), .string (S k)] 34) = X at HN HX ⊢
        generalize wr.heap.size = G at HN HG ⊢
        clear HW d0 d1 d2 d3
        have e0 : X.cell? ⟨G, 0, none⟩ = some (.int .u64 (K k)) := by rw [cell_of_row _ _ _ _ _ _ HN.out]; rfl
        have e1 : X.cell? ⟨G, 1, none⟩ = some (.int .u32 (V k : Int)) := by rw [cell_of_row _ _ _ _ _ _ HN.out]; rfl
        have e2 : X.cell? ⟨G, 2, none⟩ = some (.int .i64 (N k)) := by rw [cell_of_row _ _ _ _ _ _ HN.out]; rfl
        have e3 : X.cell? ⟨G, 3, none⟩ = some (.string (S k)) := by rw [cell_of_row _ _ _ _ _ _ HN.out]; rfl
        have hm2 : (st K N V (fun j => cut50 (S j)) k).2 ≤ 20000 := by omega
        by_cases z : K k % 3 = 2
        · have hE := HT.out z
          have T1 := wtext (w.heap.size + 3) (w.heap.size + 1) _ _ (cut50 (S k)) _ HX.out.wt HX.out.big (by omega) (by have := cut50_le (S k); omega)
          have hc50 := cut50_le (S k)
          have hup := up8_le (st K N V (fun j => cut50 (S j)) k).2
          by_cases h50 : (S k).size ≤ 50
          · have hcu : cut50 (S k) = S k := if_pos h50
            have T2 := hid T1
            clear T1
            rw [hcu] at T2
            gi_wp2_with fail
            refine ⟨trivial, (callsIn_wide.2 T2.out).mono ?_⟩
            rintro e w1 ⟨rfl, h1, h2⟩
            have hM := HX.out.go h1 h2
            rw [← hcu] at hM
            have HM := hid hM
            clear h1 h2 hM
            gi_wp2_with fail
            refine ⟨⟨k + 1, by omega, by rw [hE]; show up8 _ + _ ≤ _; omega, by go_num, by rw [hE]; exact HM.out⟩, by simp [intOf]; omega⟩
          · have hcu : cut50 (S k) = (S k).extract 0 50 := if_neg h50
            have T2 := hid T1
            clear T1
            rw [hcu] at T2
            gi_wp2_with fail
            refine ⟨trivial, (callsIn_wide.2 T2.out).mono ?_⟩
            rintro e w1 ⟨rfl, h1, h2⟩
            have hM := HX.out.go h1 h2
            rw [← hcu] at hM
            have HM := hid hM
            clear h1 h2 hM
            gi_wp2_with fail
            refine ⟨⟨k + 1, by omega, by rw [hE]; show up8 _ + _ ≤ _; omega, by go_num, by rw [hE]; exact HM.out⟩, by simp [intOf]; omega⟩
        · have hE := HS.out z
          have T1 := hid (wbits (w.heap.size + 3) (w.heap.size + 1) _ _ (V k) (N k) _ HX.out.wt HX.out.big hv n0 n1 (by omega))
          have hmn := manyN_le (N k)
          gi_wp2_with fail
          refine ⟨trivial, (callsIn_wide.2 T1.out).mono ?_⟩
          rintro e w1 ⟨rfl, h1, h2⟩
          have HM := hid (HX.out.go h1 h2)
          clear h1 h2
          gi_wp2_with fail
          refine ⟨⟨k + 1, by omega, by rw [hE]; show _ + _ ≤ _; omega, by go_num, by rw [hE]; exact HM.out⟩, by simp [intOf]; omega⟩
      · have hkn : k = n := by omega
        subst hkn
        gi_wp2_with fail
        refine ⟨trivial, (callsIn_wide.2 (wbytes (w.heap.size + 3) (w.heap.size + 1) _ _ _ HW.out.wt (by omega))).mono ?_⟩
        rintro e w1 ⟨rfl, hb1⟩
        have H1 := hid (HW.out.step hb1)
        clear hb1
        gi_wp2_with fail
        refine ⟨trivial, (callsIn_wide.2 (rread _ _)).mono ?_⟩
        rintro e w2 ⟨rfl, rfl⟩
        have HA := hid (H1.out.aft (bytesB (st K N V (fun j => cut50 (S j)) k).1 (st K N V (fun j => cut50 (S j)) k).2))
        have HZ := hid (bytesB_size (st K N V (fun j => cut50 (S j)) k).1 (st K N V (fun j => cut50 (S j)) k).2)
        have HP := hid (fun j hj h => read_bits K N V (fun j => cut50 (S j)) j k hj h)
        have HQ := hid (fun j hj h => read_text K N V (fun j => cut50 (S j)) j k hj h)
        gi_wp2_with fail
        generalize (w1.alloc (.cells #[.string (bytesB (st K N V (fun j => cut50 (S j)) k).1 (st K N V (fun j => cut50 (S j)) k).2), .int .i64 0, .bool false] 51)) = W1 at HA ⊢
        generalize w1.heap.size = g at HA ⊢
        gi_loopw [59] (fun i wr => ∃ j : Nat, j ≤ k ∧ i = .int .i64 j ∧ Aft w wr most g (bytesB (st K N V (fun j => cut50 (S j)) k).1 (st K N V (fun j => cut50 (S j)) k).2) (st K N V (fun j => cut50 (S j)) j).2) (fun i _ => k - (intOf i).toNat)
        case atStart => exact ⟨0, by omega, rfl, HA.out⟩
        case round =>
          obtain ⟨j, hj, rfl, haft⟩ := hrel
          have HW2 := hid haft
          clear haft HA H1
          have HT2 := hid (st_text K N V (fun j => cut50 (S j)) j)
          have HS2 := hid (st_bits K N V (fun j => cut50 (S j)) j)
          by_cases hlt2 : j < k
          · obtain ⟨rfl, hbw⟩ := HB0.out (by omega)
            obtain ⟨⟨c0, c1, c2, c3⟩, ⟨k0, k1⟩, ⟨n0, n1⟩, hv, hsz⟩ := HC.out j (by omega)
            have d0 : wr.cell? ⟨b, off + j * 4, none⟩ = some (.int .u64 (K j)) := (HW2.out.below.cell (p := ⟨b, off + j * 4, none⟩) hbw).trans c0
            have d1 : wr.cell? ⟨b, off + j * 4 + 1, none⟩ = some (.int .u32 (V j : Int)) := (HW2.out.below.cell (p := ⟨b, off + j * 4 + 1, none⟩) hbw).trans c1
            have d2 : wr.cell? ⟨b, off + j * 4 + 2, none⟩ = some (.int .i64 (N j)) := (HW2.out.below.cell (p := ⟨b, off + j * 4 + 2, none⟩) hbw).trans c2
            have d3 : wr.cell? ⟨b, off + j * 4 + 3, none⟩ = some (.string (S j)) := (HW2.out.below.cell (p := ⟨b, off + j * 4 + 3, none⟩) hbw).trans c3
            clear c0 c1 c2 c3
            gi_upto_region 14 with fail
            have HN := hid (heap_alloc_new wr (.cells #[.int .u64 (K j), .int .u32 (V j : Int), .int .i64 (N j), .string (S j)] 34))
            have HX := hid (HW2.out.alloc (.cells #[.int .u64 (K j), .int .u32 (V j : Int), .int .i64 (N j), .string (S j)] 34))
            generalize wr.alloc (.cells #[.int .u64 (K j), .int .u32 (V j : Int), .int .i64 (N j), .string (S j)] 34) = X at HN HX ⊢
            generalize wr.heap.size = G at HN ⊢
            clear HW2 d0 d1 d2 d3
            have e0 : X.cell? ⟨G, 0, none⟩ = some (.int .u64 (K j)) := by rw [cell_of_row _ _ _ _ _ _ HN.out]; rfl
            have e1 : X.cell? ⟨G, 1, none⟩ = some (.int .u32 (V j : Int)) := by rw [cell_of_row _ _ _ _ _ _ HN.out]; rfl
            have e2 : X.cell? ⟨G, 2, none⟩ = some (.int .i64 (N j)) := by rw [cell_of_row _ _ _ _ _ _ HN.out]; rfl
            have e3 : X.cell? ⟨G, 3, none⟩ = some (.string (S j)) := by rw [cell_of_row _ _ _ _ _ _ HN.out]; rfl
            by_cases z : K j % 3 = 2
            · have hE := HT2.out z
              obtain ⟨hq1, hq2⟩ := HQ.out j hlt2 z
              have T1 := rtextP g _ _ (cut50 (S j)).size _ HX.out.rd (by rw [HZ.out]; omega) (by rw [HZ.out]; omega)
              rw [hq1] at T1
              by_cases h50 : (S j).size ≤ 50
              · have hcu : cut50 (S j) = S j := if_pos h50
                have T2 := hid T1
                clear T1
                rw [hcu] at T2
                gi_wp2_with fail
                refine ⟨trivial, (callsIn_wide.2 T2.out).mono ?_⟩
                rintro e w3 ⟨rfl, h1⟩
                have hM := HX.out.go h1
                rw [← hcu] at hM
                have HM := hid hM
                clear h1 hM
                gi_wp2_with fail
                exact ⟨⟨j + 1, by omega, by go_num, by rw [hE]; exact HM.out⟩, by simp [intOf]; omega⟩
              · have hcu : cut50 (S j) = (S j).extract 0 50 := if_neg h50
                have hs50 : ((S j).extract 0 50).size = min 50 (S j).size := by simp
                have T2 := hid T1
                clear T1
                rw [hcu, hs50] at T2
                gi_wp2_with fail
                refine ⟨trivial, (callsIn_wide.2 T2.out).mono ?_⟩
                rintro e w3 ⟨rfl, h1⟩
                have hM := HX.out.go h1
                rw [← hs50, ← hcu] at hM
                have HM := hid hM
                clear h1 hM
                gi_wp2_with fail
                exact ⟨⟨j + 1, by omega, by go_num, by rw [hE]; exact HM.out⟩, by simp [intOf]; omega⟩
            · have hE := HS2.out z
              have z' : (K j % 3 == 2) = false := by simp [z]
              gi_upto_region 18 with fail
              gi_cut [15] from 150 (fun v wx => v = .int .i64 (manyN (N j)) ∧ wx = X)
              case first =>
                gi_wp2
                all_goals gi_meet
                all_goals exact ⟨val_int (by unfold manyN; omega), rfl⟩
              case rest =>
                obtain ⟨rfl, hw⟩ := hcut
                have hw' := hw.symm
                subst hw'
                clear hw
                have hc32 := manyN_le (N j)
                obtain ⟨hr1, hr2⟩ := HP.out j hlt2 z
                obtain ⟨c, hce⟩ : ∃ c, manyN (N j) = c := ⟨_, rfl⟩
                rw [hce] at hc32 hr1 hr2 hE
                rw [hce]
                have hmin : min c 64 = c := by omega
                have hp2 : 2 ^ c ≤ 2 ^ 32 := Nat.pow_le_pow_right (by decide) hc32
                have hp1 : 1 ≤ 2 ^ c := Nat.one_le_two_pow
                have h2c : IntKind.u64.wrap (2 ^ c) = ((2 ^ c : Nat) : Int) := by
                  have e0 : ((2 : Int) ^ c) = ((2 ^ c : Nat) : Int) := by simp
                  rw [e0, IntKind.wrap_u64]; omega
                have e0 : ((2 : Int) ^ c) = ((2 ^ c : Nat) : Int) := by simp
                have hz0 : ¬ (2 : Int) ^ c = 0 := by rw [e0]; omega
                have hz1 : (0 : Int) ≤ 2 ^ c := by rw [e0]; omega
                have hz2 : (0 : Int) < 2 ^ c := by rw [e0]; omega
                have hz3 : (2 : Int) ^ c ≤ 4294967296 := by rw [e0]; omega
                clear h2c e0
                gi_wp2_with fail
                gi_region
                have T1 := rbitsP g _ _ c _ _ (HX.out.step (Below.refl _ _).drew).rd (by rw [HZ.out]; omega) hc32 (by rw [HZ.out]; omega) (bytesB_get _ _)
                rw [hr1] at T1
                have T2 := hid T1
                clear T1
                have hvb : V j % 2 ^ c < 2 ^ c := Nat.mod_lt _ (by omega)
                gi_wp2_with fail
                refine ⟨trivial, (callsIn_wide.2 T2.out).mono ?_⟩
                rintro e w3 ⟨rfl, h1⟩
                have HM := hid ((HX.out.step (Below.refl _ _).drew).go h1)
                clear h1
                have e1 : ((V j : Int) % 2 ^ c) = ((V j % 2 ^ c : Nat) : Int) := by simp
                have hvc : (V j : Int) % 2 ^ c < 4294967296 := by rw [e1]; omega
                have hvd : 0 ≤ (V j : Int) % 2 ^ c := by rw [e1]; omega
                clear e1
                gi_upto_region 22 with fail
                clear hvc hvd hvb hz0 hz1 hz2 hz3 hp1 hp2 hmin hr1 hr2
                generalize (V j : Int) % 2 ^ c = φ
                generalize (2 : Int) ^ c = ψ
                gi_wp2_with fail
                exact ⟨⟨j + 1, by omega, by go_num, by rw [hE]; exact HM.out⟩, by simp [intOf]; omega⟩
          · have hjk : j = k := by omega
            subst hjk
            clear HP HQ HT2 HS2 HT HS
            obtain ⟨P, hP⟩ : ∃ P, (st K N V (fun j => cut50 (S j)) j).2 = P := ⟨_, rfl⟩
            obtain ⟨X, hX⟩ : ∃ X, bytesB (st K N V (fun j => cut50 (S j)) j).1 (st K N V (fun j => cut50 (S j)) j).2 = X := ⟨_, rfl⟩
            rw [hX] at HZ HW2
            rw [hP] at HZ HW2 hm
            gi_wp2_with fail
            refine ⟨trivial, (callsIn_wide.2 (all τ _)).mono ?_⟩
            rintro e w4 ⟨rfl, rfl⟩
            have A4 := hid (HW2.out.alloc (.cells #[.string τ] 9))
            have B4 := hid (heap_alloc_new wr (.cells #[.string τ] 9))
            have S4 := hid (show w.heap.size + 3 ≤ wr.heap.size from by have h1 := HW2.out.big; have h2 := HW2.out.rd.lt; omega)
            clear HW2 hX hP
            generalize wr.alloc (.cells #[.string τ] 9) = W4 at A4 B4 ⊢
            generalize wr.heap.size = B at B4 S4 ⊢
            have hnf : (binOp BinOp.eql 46 (Value.func (Fn.func 22) #[] #[Value.pointer (some ⟨B, 0, none⟩)]) Value.nilFunc).run Try.prog W4 = .ok (.bool false) W4 := by kernel_rfl
            gi_wp2_with fail
            refine ⟨trivial, (callsIn_wide.2 (rfine g _ _ _ A4.out.rd)).mono ?_⟩
            rintro e w5 ⟨rfl, rfl⟩
            clear hnf
            gi_wp2_with fail
            refine ⟨trivial, (callsIn_wide.2 (rleft g _ _ _ A4.out.rd (by rw [HZ.out]; omega) (by rw [HZ.out]; omega))).mono ?_⟩
            rintro e w5 ⟨m, rfl, rfl⟩
            have hge : ¬ (8 : Int) ≤ (X.size : Int) * 8 - (P : Int) := by have := HZ.out; omega
            have A5 := hid (A4.out.step (W' := W4.drewN m) ⟨rfl, rfl, rfl, Nat.le_refl _, fun _ _ => rfl⟩)
            have B5 := hid (show (W4.drewN m).heap[B]? = some (.cells #[.string τ] 9 (0, 0)) from B4.out)
            generalize W4.drewN m = W5 at A5 B5 ⊢
            clear A4 B4
            have V6 := hid (vs_new A5.out.two A5.out.box (by have h1 := A5.out.big; have h2 := A5.out.rd.lt; omega))
            have B6 := hid ((Below.heap_alloc W5 (.cells #[.int .u64 0] 31) _ (Array.getElem?_eq_some_iff.1 B5.out).1).trans B5.out)
            have H6 := hid (A5.out.below.alloc A5.out.below.size (.cells #[.int .u64 0] 31))
            have Z6 := hid (show (W5.alloc (.cells #[.int .u64 0] 31)).heap.size = W5.heap.size + 1 by simp)
            gi_wp2_with fail
            generalize W5.alloc (.cells #[.int .u64 0] 31) = W6 at V6 B6 H6 Z6 ⊢
            generalize W5.heap.size = D at V6 Z6 ⊢
            have HB3 := hid (show w.heap.size + 3 ≤ B from S4.out)
            clear A5 B5 hge
            have hD3 := V6.out.big
            obtain ⟨q, hq, hq0, hq1⟩ : ∃ q : Int, most.tmod 2000 = q ∧ 0 ≤ q ∧ q ≤ 1999 := ⟨_, rfl, Int.tmod_nonneg _ HM0.out, by rw [Int.tmod_eq_emod_of_nonneg HM0.out]; omega⟩
            apply wpIn_rangeFunc_ownF rfl (by omega) (gf := 22) (lb := #[.pointer (some ⟨B, 0, none⟩)]) rfl trivial (enters_of Try.func22 (by kernel_rfl) rfl)
              (bits_stops Fence.wide (8 - 1) trivial rfl (by omega) B τ hτ W6 B6.out) stays_t (fun W l o o' => stays_b W l o o') (Below.refl _ _) (fun _ => rfl)
              (fun pre W => (Vs w W most D (numB pre) pre.length ∧ (pre.length : Int) ≤ q) ∧ Below w.heap.size w W)
              (fun c pre W => (c = .exit 4 ∧ Vs w W most D (numB pre) pre.length ∧ (pre.length : Int) = q + 1) ∧ Below w.heap.size w W)
              (OwnFrom.and (Own.from (fun s' A B row hs hg hr => ⟨hs.1.kept hg hr, hs.2⟩) _) (ownFrom_below (Nat.le_refl _) (by have := Z6.out; omega)))
              (fun c => OwnFrom.and (Own.from (fun s' A B row hs hg hr => ⟨hs.1, hs.2.1.kept hg hr, hs.2.2⟩) _) (ownFrom_below (Nat.le_refl _) (by have := Z6.out; omega)))
              ⟨⟨V6.out, by simp; omega⟩, H6.out⟩
            case hassign =>
              intro l x W K hK
              gi_wp2
              exact hK
            case hbody =>
              rintro l pre x W ⟨⟨hV, hle⟩, hB⟩ hlen
              have HV := hid hV
              have HH := hid hB
              have hl2 : (pre.length : Int) + 1 ≤ 2000 := by omega
              have T1 := wbits (w.heap.size + 3) (w.heap.size + 2) (numB pre) pre.length x.toNat 1 W hV.wt (by have := hV.lt; omega) (by have := Bool.toNat_le x; omega) (by decide) (by decide) (by omega)
              rw [numB_next] at T1
              have T2 := hid T1
              clear T1 hV hB
              have HLE := hid hle
              have HLN := hid (show (pre ++ [x]).length = pre.length + 1 by simp)
              by_cases hgt : q < (pre.length : Int) + 1
              · gi_wp2
                refine ⟨trivial, (CallsIn.inRound l (callsIn_wide.2 T2.out)).mono ?_⟩
                rintro e W1 ⟨rfl, h1, k1⟩
                have H1 := hid h1
                have K1 := hid k1
                obtain ⟨m1, m2⟩ := HV.out.mid k1
                have c1 : W1.cell? ⟨w.heap.size, 0, none⟩ = some (.int .u64 most) := by rw [cell_of_row _ _ _ _ _ _ m1]; rfl
                have c2 : W1.cell? ⟨D, 0, none⟩ = some (.int .u64 (pre.length : Int)) := by rw [cell_of_row _ _ _ _ _ _ m2]; rfl
                have f2 := frozen_of_row W1 D 0 _ _ m2
                have hne : ¬ w.heap.size = D := by omega
                clear h1 k1 m1 m2
                gi_wp2
                exact ⟨K1.out.kinds.trans (KeepsOthers.setCell _ _ _), ⟨rfl, by rw [HLN.out]; exact HV.out.go H1.out K1.out, by rw [HLN.out]; omega⟩, (HH.out.trans (K1.out.below.mono (by omega))).setCell (p := ⟨D, 0, none⟩) (by show w.heap.size ≤ D; omega) _⟩
              · gi_wp2
                refine ⟨trivial, (CallsIn.inRound l (callsIn_wide.2 T2.out)).mono ?_⟩
                rintro e W1 ⟨rfl, h1, k1⟩
                have H1 := hid h1
                have K1 := hid k1
                obtain ⟨m1, m2⟩ := HV.out.mid k1
                have c1 : W1.cell? ⟨w.heap.size, 0, none⟩ = some (.int .u64 most) := by rw [cell_of_row _ _ _ _ _ _ m1]; rfl
                have c2 : W1.cell? ⟨D, 0, none⟩ = some (.int .u64 (pre.length : Int)) := by rw [cell_of_row _ _ _ _ _ _ m2]; rfl
                have f2 := frozen_of_row W1 D 0 _ _ m2
                have hne : ¬ w.heap.size = D := by omega
                clear h1 k1 m1 m2
                gi_wp2
                exact ⟨K1.out.kinds.trans (KeepsOthers.setCell _ _ _), HV.out.stays K1.out HB3.out _, ⟨by rw [HLN.out]; exact HV.out.go H1.out K1.out, by rw [HLN.out]; omega⟩, (HH.out.trans (K1.out.below.mono (by omega))).setCell (p := ⟨D, 0, none⟩) (by show w.heap.size ≤ D; omega) _⟩
            case hdone =>
              rintro D' ys W hD' rfl ⟨⟨hV, hle⟩, hB⟩ hK
              have HV := hid hV
              have HH := hid hB
              have HK := hid hK
              have HD := hid hD'
              rw [tbits_length] at hle
              rw [tbits_length] at HV
              obtain ⟨c1, c2⟩ := HV.out.cells
              have HW3 := hid (tbits_whole τ)
              clear hV hB hK
              gi_wp2
              refine ⟨trivial, (callsIn_wide.2 (wbytes (w.heap.size + 3) (w.heap.size + 2) _ _ _ HV.out.wt (by omega))).mono ?_⟩
              rw [HW3.out]
              rintro e W7 ⟨rfl, b7⟩
              have HB7 := hid b7
              clear b7
              gi_wp2
              refine ⟨trivial, (callsIn_wide.2 (lives _)).mono ?_⟩
              rintro e W8 ⟨rfl, b8⟩
              have HB8 := hid (HB7.out.trans (b8.mono HB7.out.size))
              clear b8
              gi_wp2
              have HK8 := (HB8.out.block D' (Array.getElem?_eq_some_iff.1 HK.out).1).trans HK.out
              refine ⟨by simp, .inl ⟨_, _, rfl, run_takeDeferred HK8, ?_⟩⟩
              exact ⟨_, results_tmp rfl _ _ _, rfl, (HH.out.trans (HB8.out.mono HH.out.size)).trans (belowK_b (w := w) (Nat.le_refl _) _ D' _ _ (by have := Z6.out; have := HD.out; omega) HK8 rfl rfl)⟩
            case hstop =>
              rintro D' cd pre W hD' hpre ⟨⟨rfl, hV, heq⟩, hB⟩ hK
              have HV := hid hV
              have HH := hid hB
              have HK := hid hK
              have HD := hid hD'
              obtain ⟨c1, c2⟩ := hV.cells
              have h8 : q + 1 ≤ 8 * (τ.size : Int) := by
                have := hpre.length_le
                rw [tbits_length] at this
                omega
              rw [heq] at c2
              clear hV hB hK hpre heq
              gi_wp2
              all_goals
                refine ⟨trivial, ?_⟩
                gi_wp2
                refine ⟨trivial, (callsIn_wide.2 (lives _)).mono ?_⟩
                rintro e W8 ⟨rfl, b8⟩
                have HB8 := hid b8
                clear b8
                gi_wp2
                have HK8 := (HB8.out.block D' (Array.getElem?_eq_some_iff.1 HK.out).1).trans HK.out
                refine ⟨by simp, .inl ⟨_, _, rfl, run_takeDeferred HK8, ?_⟩⟩
                exact ⟨_, results_tmp rfl _ _ _, rfl, (HH.out.trans (HB8.out.mono HH.out.size)).trans (belowK_b (w := w) (Nat.le_refl _) _ D' _ _ (by have := Z6.out; have := HD.out; omega) HK8 rfl rfl)⟩
end Go.Proofs.Ytlgnapapofgdfaa
