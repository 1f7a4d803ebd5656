/- The law of between: a value lies among what was taken in. -/
import Derived.Test.YtcoajalgodlphaaLaw8
namespace Go.Proofs.Ytcoajalgodlphaa
open Go.RowKit Go.Maps Av
set_option linter.unusedVariables false
set_option linter.unusedSimpArgs false
set_option maxRecDepth 100000

theorem long5 {s x : Int} {t : Int} {W : World} {a : Option Addr} {n c : Nat} (h : 1000 < n) :
    Calls Try.prog 5 #[.int .i64 s, .slice a n c, .int .i64 x, .int .u8 t] W fun e w' => e = .returned (.bool true) ∧ Below W.heap.size W w' := by
  have C := hid (works9 W)
  have hI : (1000 : Int) < n := by omega
  go_enter Try.func5, Try.ntmps5
  go_wp2_with (go_at_call 9; refine C.out.mono ?_; rintro e w7 ⟨rfl, b7⟩)
  go_ret
  exact ⟨rfl, b7⟩
theorem nil5 {s x : Int} {t : Int} {W : World} {a : Option Addr} {n c : Nat} (h : n ≤ 1000) (hs : s < 0 ∨ 30 < s) :
    Calls Try.prog 5 #[.int .i64 s, .slice a n c, .int .i64 x, .int .u8 t] W fun e w' => e = .returned (.bool true) ∧ Below W.heap.size W w' := by
  have C := hid (works9 W)
  have C10 := hid (new10_no s W hs)
  have hI : ¬ (1000 : Int) < n := by omega
  clear hs
  go_enter Try.func5, Try.ntmps5
  go_wp2_with (first
    | (go_at_call 10; refine C10.out.mono ?_; rintro e w7 ⟨rfl, hw7⟩; rw [hw7]; clear hw7)
    | (go_at_call 9; refine C.out.mono ?_; rintro e w7 ⟨rfl, b7⟩))
  go_ret
  exact ⟨rfl, b7⟩
/-- What was taken in so far lies between lo and hi, and so does the value. -/
def Btw (s : Nat) (v : Int) (k : Nat) (lo hi : Int) (tk : Bool) : Prop :=
  Ok s v k ∧ ((tk = false ∧ v = 0 ∧ k = 0 ∧ lo = 0 ∧ hi = 0) ∨ (tk = true ∧ 0 ≤ lo ∧ lo ≤ hi ∧ hi ≤ 1073741824 ∧ lo * 4294967296 ≤ v ∧ v ≤ hi * 4294967296))
theorem shl32 {z : Int} (h0 : 0 ≤ z) (h1 : z ≤ 1073741824) : wrap64 (z * 4294967296) = z * 4294967296 := by unfold wrap64; omega
theorem btw_add {s k : Nat} {v lo hi y : Int} {tk : Bool} (h : Btw s v k lo hi tk) (h0 : 0 ≤ y) (h1 : y ≤ 1073741824) (hk : k < 1048576) {lo' hi' : Int}
    (c : (tk = false ∧ lo' = y ∧ hi' = y) ∨ (tk = true ∧ (y < lo ∧ lo' = y ∧ hi' = hi ∨ hi < y ∧ lo' = lo ∧ hi' = y ∨ lo ≤ y ∧ y ≤ hi ∧ lo' = lo ∧ hi' = hi))) : Btw s (avV s (k + 1) v y) (k + 1) lo' hi' true := by
  obtain ⟨ho, hc⟩ := h
  refine ⟨ho.add h0 h1 hk, .inr ⟨rfl, ?_⟩⟩
  rcases hc with ⟨e1, rfl, rfl, rfl, rfl⟩ | ⟨e1, b1, b2, b3, b4, b5⟩
  · rcases c with ⟨_, rfl, rfl⟩ | ⟨e2, _⟩
    · rw [avV_first]; omega
    · rw [e1] at e2; cases e2
  · obtain ⟨m1, m2⟩ := avV_mid s (k + 1) v y
    generalize avV s (k + 1) v y = u at *
    have m3 : v ≤ y * 4294967296 ∨ y * 4294967296 ≤ v := Int.le_total _ _
    rcases c with ⟨e2, _⟩ | ⟨_, ⟨c1, rfl, rfl⟩ | ⟨c1, rfl, rfl⟩ | ⟨c1, c2, rfl, rfl⟩⟩
    · rw [e1] at e2; cases e2
    all_goals
      rcases m3 with m3 | m3
      · have := m1 m3; omega
      · have := m2 m3; omega
theorem btw_use {s k : Nat} {v lo hi : Int} (h : Btw s v k lo hi true) : ¬ v < lo * 4294967296 ∧ ¬ hi * 4294967296 < v ∧ wrap64 (lo * 4294967296) = lo * 4294967296 ∧ wrap64 (hi * 4294967296) = hi * 4294967296 := by
  obtain ⟨ho, hc⟩ := h
  rcases hc with ⟨e1, _⟩ | ⟨e1, b1, b2, b3, b4, b5⟩
  · cases e1
  · exact ⟨by omega, by omega, shl32 (by omega) (by omega), shl32 (by omega) (by omega)⟩
/-- Both averages, and what lies outside. -/
structure Two5 (b b2 s : Nat) (v v2 : Int) (k k2 : Nat) (W wr : World) : Prop where
  am : Am 57 b s v k wr
  bm : Am 57 b2 s v2 k2 wr
  ne : b < b2
  bel : Below b W wr
  sz : b ≤ wr.heap.size
theorem Two5.addA {b b2 s : Nat} {v v2 : Int} {k k2 : Nat} {W wr w' : World} {v' : Int} {k' : Nat} (H : Two5 b b2 s v v2 k k2 W wr) (h : Am 57 b s v' k' w') (f : Fq (fun g => g ≠ b) wr w') : Two5 b b2 s v' v2 k' k2 W w' :=
  ⟨h, H.bm.keep f (by have := H.ne; omega), H.ne, H.bel.trans (f.bel H.sz (Nat.le_refl _)), Nat.le_trans H.sz f.size⟩
theorem Two5.addB {b b2 s : Nat} {v v2 : Int} {k k2 : Nat} {W wr w' : World} {v' : Int} {k' : Nat} (H : Two5 b b2 s v v2 k k2 W wr) (h : Am 57 b2 s v' k' w') (f : Fq (fun g => g ≠ b2) wr w') : Two5 b b2 s v v' k k' W w' :=
  ⟨H.am.keep f (by have := H.ne; omega), h, H.ne, H.bel.trans (f.bel H.sz (by have := H.ne; omega)), Nat.le_trans H.sz f.size⟩
theorem cell_iw {W wr : World} {l : List Int} {gb off b i n : Nat} (hI : Iw W (some ⟨gb, off, none⟩) l) (hn : l.length = n) (hi : i < n) (hb : W.heap.size = b) (h : Below b W wr) : wr.cell? ⟨gb, off + i, none⟩ = some (.int .i64 (l.getD i 0)) := by
  rcases hI with e | ⟨g, o, e, hc⟩
  · rw [e] at hn; simp at hn; omega
  · cases e
    have hlt2 := cell_lt (hc i (by omega))
    rw [h.cell (p := ⟨gb, off + i, none⟩) (show gb < b by omega)]
    exact hc i (by omega)
set_option maxHeartbeats 8000000 in
theorem law5_ok {s : Nat} {x : Int} {t : Nat} {W : World} {a : Option Addr} {l : List Int} {c : Nat} (h : l.length ≤ 1000) (hs : s ≤ 30) (ht : t ≤ 255) (hI : Iw W a l) :
    Calls Try.prog 5 #[.int .i64 (s : Int), .slice a l.length c, .int .i64 x, .int .u8 (t : Int)] W fun e w' => e = .returned (.bool true) ∧ Below W.heap.size W w' := by
  have C10 := hid (fun (w : World) => new10_ok s w hs)
  have HI := hid hI
  have hsh : Hid (l.length = 0) ∨ ∃ gb off, a = some ⟨gb, off, none⟩ := by
    rcases hI with rfl | ⟨gb, off, e, _⟩
    · exact .inl rfl
    · exact .inr ⟨gb, off, e⟩
  obtain ⟨n, hn⟩ : ∃ n, l.length = n := ⟨_, rfl⟩
  have HN := hid hn
  rw [hn] at h hsh ⊢
  have hnI : ¬ (1000 : Int) < n := by omega
  have hnJ : (n : Int) ≤ 1000 := by omega
  have HS := hid hs
  have HT := hid ht
  obtain ⟨sI, hsI⟩ : ∃ sI : Int, (s : Int) = sI := ⟨_, rfl⟩
  rw [hsI] at C10 ⊢
  clear hI hs hn hsI
  rcases hsh with Z | ⟨gb, off, rfl⟩
  all_goals
    go_enter Try.func5, Try.ntmps5
    go_wp2_with (fail)
    go_at_call 10
    refine (C10.out _).mono ?_
    rintro e w1 ⟨rfl, a1, b1⟩
    have D10 := hid (C10.out w1)
    have hne := lt_of_blk a1.blk
    obtain ⟨b, hb⟩ : ∃ b, W.heap.size = b := ⟨_, rfl⟩
    obtain ⟨b2, hb2⟩ : ∃ b2, w1.heap.size = b2 := ⟨_, rfl⟩
    rw [hb2] at D10 hne
    rw [hb] at a1 b1 hne ⊢
    have H1 := hid (show Am 57 b s 0 0 w1 ∧ b < b2 ∧ Below b W w1 from ⟨a1, hne, b1⟩)
    have HB := hid hb
    have HB2 := hid hb2
    clear C10 a1 b1 hne hb hb2
    go_wp2_with (fail)
    go_at_call 10
    refine D10.out.mono ?_
    rintro e w2 ⟨rfl, a2, b2'⟩
    have H2 := hid (show Two5 b b2 s 0 0 0 0 W w2 from ⟨H1.out.1.below (HB2.out.symm ▸ b2'), a2, H1.out.2.1, H1.out.2.2.trans ((HB2.out.symm ▸ b2').mono (by have := H1.out.2.1; have := HB2.out; omega)), by have := b2'.size; have := HB2.out; have := H1.out.2.1; omega⟩)
    clear D10 a2 b2' H1
    go_wp2_with (fail)
    go_loopw [13, 14, 15, 16] (fun lv hv tv iv wr => ∃ (i : Nat) (v lo hi : Int) (k : Nat) (tk : Bool), i ≤ n ∧ lv = .int .i64 lo ∧ hv = .int .i64 hi ∧ tv = .bool tk ∧ iv = .int .i64 (i : Int) ∧ Hid (Two5 b b2 s v 0 k 0 W wr ∧ Btw s v k lo hi tk ∧ k ≤ i)) (fun _ _ _ iv _ => n - (intOf iv).toNat)
    case atStart => exact ⟨0, 0, 0, 0, 0, false, Nat.zero_le _, rfl, rfl, rfl, rfl, hid ⟨H2.out, ⟨ok0 HS.out, .inl ⟨rfl, rfl, rfl, rfl, rfl⟩⟩, Nat.le_refl _⟩⟩
    case round =>
      obtain ⟨i, v, lo, hi, k, tk, hin, rfl, rfl, rfl, rfl, HR⟩ := hrel
      by_cases hlt : i < n
      · first
        | (exfalso; have := Z.out; omega)
        | (have hx := cell_iw HI.out HN.out hlt HB.out HR.out.1.bel
           obtain ⟨y, hyl⟩ : ∃ y, l.getD i 0 = y := ⟨_, rfl⟩
           rw [hyl] at hx
           have hltI : (i : Int) < n := by omega
           have hwi : wrap64 ((i : Int) + 1) = (i : Int) + 1 := by unfold wrap64; omega
           by_cases hxr : y < 0 ∨ 1073741824 < y
           · have C := hid (add12_no (b := b) wr hxr)
             clear hxr
             go_wp2_with (go_at_call 12; refine C.out.mono ?_; rintro e w7 ⟨rfl, hw7⟩; rw [hw7]; clear hw7)
             go_roundw
             case rel => exact ⟨i + 1, v, lo, hi, k, tk, hlt, rfl, rfl, rfl, by go_num, hid ⟨HR.out.1, HR.out.2.1, Nat.le_succ_of_le HR.out.2.2⟩⟩
             case measure => simp [intOf]; omega
           · have hy0 : 0 ≤ y := by omega
             have hy1 : y ≤ 1073741824 := by omega
             have C := hid (add12_ok HR.out.1.am HR.out.2.1.1 (x := y) hy0 hy1)
             cases tk
             · skip
               have HT2 := hid (btw_add (lo' := y) (hi' := y) HR.out.2.1 hy0 hy1 (by have := HR.out.2.2; omega) (.inl ⟨rfl, rfl, rfl⟩))
               obtain ⟨u1, u2, u3, u4⟩ := btw_use HT2.out
               generalize avV s (k + 1) v y = u at C HT2 u1 u2
               obtain ⟨LT, hLT⟩ : ∃ LT, y * 4294967296 = LT := ⟨_, rfl⟩
               rw [hLT] at u1 u3
               rw [hLT] at u2 u4
               clear hxr hy0 hy1
               go_wp2_with (fail)
               go_at_call 12
               refine C.out.mono ?_
               rintro e w7 ⟨rfl, a7, f7⟩
               have HR7 := hid (HR.out.1.addA a7 f7)
               have hx7 := cell_iw HI.out HN.out hlt HB.out HR7.out.bel
               rw [hyl] at hx7
               have D14 := hid (value14 a7)
               clear a7 f7 C hx
               go_wp2_with (go_at_call 14; refine D14.out.mono ?_; rintro e w8 ⟨rfl, hw8⟩; rw [hw8]; clear hw8)
               go_roundw
               case rel => exact ⟨i + 1, u, y, y, k + 1, true, hlt, rfl, rfl, rfl, by go_num, hid ⟨HR7.out, HT2.out, Nat.succ_le_succ HR.out.2.2⟩⟩
               case measure => simp [intOf]; omega
             · by_cases q1 : y < lo
               · have q2 : ¬ hi < y := by rcases HR.out.2.1.2 with ⟨e, _⟩ | ⟨_, b1, b2, _⟩; cases e; omega
                 have HT2 := hid (btw_add (lo' := y) (hi' := hi) HR.out.2.1 hy0 hy1 (by have := HR.out.2.2; omega) (.inr ⟨rfl, .inl ⟨q1, rfl, rfl⟩⟩))
                 obtain ⟨u1, u2, u3, u4⟩ := btw_use HT2.out
                 generalize avV s (k + 1) v y = u at C HT2 u1 u2
                 obtain ⟨LT, hLT⟩ : ∃ LT, y * 4294967296 = LT := ⟨_, rfl⟩
                 rw [hLT] at u1 u3
                 obtain ⟨HT3, hHT⟩ : ∃ HT3, hi * 4294967296 = HT3 := ⟨_, rfl⟩
                 rw [hHT] at u2 u4
                 clear hxr hy0 hy1
                 go_wp2_with (fail)
                 go_at_call 12
                 refine C.out.mono ?_
                 rintro e w7 ⟨rfl, a7, f7⟩
                 have HR7 := hid (HR.out.1.addA a7 f7)
                 have hx7 := cell_iw HI.out HN.out hlt HB.out HR7.out.bel
                 rw [hyl] at hx7
                 have D14 := hid (value14 a7)
                 clear a7 f7 C hx
                 go_wp2_with (go_at_call 14; refine D14.out.mono ?_; rintro e w8 ⟨rfl, hw8⟩; rw [hw8]; clear hw8)
                 go_roundw
                 case rel => exact ⟨i + 1, u, y, hi, k + 1, true, hlt, rfl, rfl, rfl, by go_num, hid ⟨HR7.out, HT2.out, Nat.succ_le_succ HR.out.2.2⟩⟩
                 case measure => simp [intOf]; omega
               · by_cases q2 : hi < y
                 · skip
                   have HT2 := hid (btw_add (lo' := lo) (hi' := y) HR.out.2.1 hy0 hy1 (by have := HR.out.2.2; omega) (.inr ⟨rfl, .inr (.inl ⟨q2, rfl, rfl⟩)⟩))
                   obtain ⟨u1, u2, u3, u4⟩ := btw_use HT2.out
                   generalize avV s (k + 1) v y = u at C HT2 u1 u2
                   obtain ⟨LT, hLT⟩ : ∃ LT, lo * 4294967296 = LT := ⟨_, rfl⟩
                   rw [hLT] at u1 u3
                   obtain ⟨HT3, hHT⟩ : ∃ HT3, y * 4294967296 = HT3 := ⟨_, rfl⟩
                   rw [hHT] at u2 u4
                   clear hxr hy0 hy1
                   go_wp2_with (fail)
                   go_at_call 12
                   refine C.out.mono ?_
                   rintro e w7 ⟨rfl, a7, f7⟩
                   have HR7 := hid (HR.out.1.addA a7 f7)
                   have hx7 := cell_iw HI.out HN.out hlt HB.out HR7.out.bel
                   rw [hyl] at hx7
                   have D14 := hid (value14 a7)
                   clear a7 f7 C hx
                   go_wp2_with (go_at_call 14; refine D14.out.mono ?_; rintro e w8 ⟨rfl, hw8⟩; rw [hw8]; clear hw8)
                   go_roundw
                   case rel => exact ⟨i + 1, u, lo, y, k + 1, true, hlt, rfl, rfl, rfl, by go_num, hid ⟨HR7.out, HT2.out, Nat.succ_le_succ HR.out.2.2⟩⟩
                   case measure => simp [intOf]; omega
                 · skip
                   have HT2 := hid (btw_add (lo' := lo) (hi' := hi) HR.out.2.1 hy0 hy1 (by have := HR.out.2.2; omega) (.inr ⟨rfl, .inr (.inr ⟨by omega, by omega, rfl, rfl⟩)⟩))
                   obtain ⟨u1, u2, u3, u4⟩ := btw_use HT2.out
                   generalize avV s (k + 1) v y = u at C HT2 u1 u2
                   obtain ⟨LT, hLT⟩ : ∃ LT, lo * 4294967296 = LT := ⟨_, rfl⟩
                   rw [hLT] at u1 u3
                   obtain ⟨HT3, hHT⟩ : ∃ HT3, hi * 4294967296 = HT3 := ⟨_, rfl⟩
                   rw [hHT] at u2 u4
                   clear hxr hy0 hy1
                   go_wp2_with (fail)
                   go_at_call 12
                   refine C.out.mono ?_
                   rintro e w7 ⟨rfl, a7, f7⟩
                   have HR7 := hid (HR.out.1.addA a7 f7)
                   have hx7 := cell_iw HI.out HN.out hlt HB.out HR7.out.bel
                   rw [hyl] at hx7
                   have D14 := hid (value14 a7)
                   clear a7 f7 C hx
                   go_wp2_with (go_at_call 14; refine D14.out.mono ?_; rintro e w8 ⟨rfl, hw8⟩; rw [hw8]; clear hw8)
                   go_roundw
                   case rel => exact ⟨i + 1, u, lo, hi, k + 1, true, hlt, rfl, rfl, rfl, by go_num, hid ⟨HR7.out, HT2.out, Nat.succ_le_succ HR.out.2.2⟩⟩
                   case measure => simp [intOf]; omega)
      · have hltI : ¬ (i : Int) < n := by omega
        have htw : IntKind.i64.wrap (t : Int) = t := by rw [IntKind.wrap_i64]; have := HT.out; omega
        go_wp2
        go_loopw [17] (fun jv wr => ∃ (j : Nat) (v2 : Int) (k2 : Nat), j ≤ t ∧ jv = .int .i64 (j : Int) ∧ Hid (Two5 b b2 s v v2 k k2 W wr ∧ Ok s v2 k2 ∧ k2 ≤ j ∧ (k2 = 0 ∨ v2 = x * 4294967296))) (fun jv _ => t - (intOf jv).toNat)
        case atStart => exact ⟨0, 0, 0, Nat.zero_le _, rfl, hid ⟨HR.out.1, ok0 HS.out, Nat.le_refl _, .inl rfl⟩⟩
        case round =>
          obtain ⟨j, v2, k2, hjt, rfl, HJ⟩ := hrel
          by_cases hj : j < t
          · have hjI : (j : Int) < t := by omega
            have ht255 := HT.out
            have hwj : wrap64 ((j : Int) + 1) = (j : Int) + 1 := by unfold wrap64; omega
            by_cases hxr : x < 0 ∨ 1073741824 < x
            · have C := hid (add12_no (b := b2) wr hxr)
              clear hxr ht255
              go_wp2_with (go_at_call 12; refine C.out.mono ?_; rintro e w7 ⟨rfl, hw7⟩; rw [hw7]; clear hw7)
              go_roundw
              case rel => exact ⟨j + 1, v2, k2, hj, by go_num, hid ⟨HJ.out.1, HJ.out.2.1, Nat.le_succ_of_le HJ.out.2.2.1, HJ.out.2.2.2⟩⟩
              case measure => simp [intOf]; omega
            · have hx0 : 0 ≤ x := by omega
              have hx1 : x ≤ 1073741824 := by omega
              have C := hid (add12_ok HJ.out.1.bm HJ.out.2.1 (x := x) hx0 hx1)
              have HO := hid (HJ.out.2.1.add (x := x) hx0 hx1 (by have := HJ.out.2.2.1; omega))
              have he : avV s (k2 + 1) v2 x = x * 4294967296 := by
                rcases HJ.out.2.2.2 with e | e
                · rw [e]; exact avV_first s v2 x
                · rw [e]; exact avV_same s (k2 + 1) x
              rw [he] at C HO
              have hxw := shl32 hx0 hx1
              have HXE := hid (show (x * 4294967296 : Int) = x * 4294967296 from rfl)
              obtain ⟨T, hT⟩ : ∃ T, x * 4294967296 = T := ⟨_, rfl⟩
              rw [hT] at hxw C HO
              clear hxr he ht255 hx0 hx1
              go_wp2_with (fail)
              go_at_call 12
              refine C.out.mono ?_
              rintro e w7 ⟨rfl, a7, f7⟩
              have HJ7 := hid (HJ.out.1.addB a7 f7)
              have D14 := hid (value14 a7)
              clear a7 f7 C
              go_wp2_with (go_at_call 14; refine D14.out.mono ?_; rintro e w8 ⟨rfl, hw8⟩; rw [hw8]; clear hw8)
              go_roundw
              case rel => exact ⟨j + 1, T, k2 + 1, hj, by go_num, hid ⟨HJ7.out, HO.out, Nat.succ_le_succ HJ.out.2.2.1, .inr hT.symm⟩⟩
              case measure => simp [intOf]; omega
          · have hjI : ¬ (j : Int) < t := by omega
            have C9 := hid (works9 wr)
            go_wp2_with (go_at_call 9; refine C9.out.mono ?_; rintro e w8 ⟨rfl, b8⟩)
            go_ret
            exact ⟨rfl, bfin HB.out (HJ.out.1.bel.trans (b8.mono HJ.out.1.sz))⟩
theorem law5 {s x : Int} {t : Nat} {W : World} {a : Option Addr} {l : List Int} {c : Nat} (ht : t ≤ 255) (hI : Iw W a l) :
    Calls Try.prog 5 #[.int .i64 s, .slice a l.length c, .int .i64 x, .int .u8 (t : Int)] W fun e w' => e = .returned (.bool true) ∧ Below W.heap.size W w' := by
  by_cases h : l.length ≤ 1000
  · by_cases hs : s < 0 ∨ 30 < s
    · exact nil5 h hs
    · obtain ⟨n, rfl⟩ : ∃ n : Nat, s = n := ⟨s.toNat, by omega⟩
      exact law5_ok h (by omega) ht hI
  · exact long5 (by omega)
theorem law5i {s x t : Int} {W : World} {a : Option Addr} {l : List Int} {c : Nat} (ht : 0 ≤ t ∧ t ≤ 255) (hI : Iw W a l) :
    Calls Try.prog 5 #[.int .i64 s, .slice a l.length c, .int .i64 x, .int .u8 t] W fun e w' => e = .returned (.bool true) ∧ Below W.heap.size W w' := by
  obtain ⟨n, rfl⟩ : ∃ n : Nat, t = n := ⟨t.toNat, by omega⟩
  exact law5 (by omega) hI
end Go.Proofs.Ytcoajalgodlphaa
