/- The document's Choose. -/
import Derived.Test.YtekkbpaelojmeaaBfr
import Derived.Test.YtekkbpaelojmeaaChs
import Derived.Deep.DeepCutAuto
import Derived.Deep.CutBlock
namespace Go.Proofs.Ytekkbpaelojmeaa
open Go.RowKit Go.Maps
set_option linter.unusedVariables false
set_option linter.unusedSimpArgs false
set_option maxRecDepth 100000

theorem choose11_no {W : World} {a : Option Addr} {n c : Nat} (g : Int) {p : Int} (hp : ¬ (0 ≤ p ∧ p ≤ 100)) :
    Calls Try.prog 11 #[.slice a n c, .int .i64 g, .int .i64 p] W fun e w' => e = .returned (.tuple #[.slice none 0 0, .int .i64 2]) ∧ w' = W := by
  by_cases h1 : 0 ≤ p
  · have h2 : ¬ p ≤ 100 := fun h => hp ⟨h1, h⟩
    clear hp
    go_enter Try.func11, Try.ntmps11
    go_wp2
    go_ret2
    exact ⟨rfl, rfl⟩
  · clear hp
    go_enter Try.func11, Try.ntmps11
    go_wp2
    go_ret2
    exact ⟨rfl, rfl⟩
/-- The row while it is made: L, in memory of its own. -/
structure Mk (W : World) (o : Option Addr) (t c : Nat) (L : List K4) (w : World) : Prop where
  bel : Below W.heap.size W w
  len : L.length = t
  own : w.ownsRow W.heap.size 31 5 (.slice o t c) t (flat (L.map toRc))
  nil : t = 0 → o = none ∧ c = 0
theorem Mk.below {W : World} {o : Option Addr} {t c : Nat} {L : List K4} {w w' : World} (h : Mk W o t c L w) (hb : Below w.heap.size w w') : Mk W o t c L w' :=
  ⟨h.bel.trans (hb.mono h.bel.size), h.len, own_below h.own hb, h.nil⟩
theorem Mk.shape {W : World} {o : Option Addr} {t c : Nat} {L : List K4} {w : World} (h : Mk W o t c L w) : (t = 0 ∧ o = none ∧ c = 0) ∨ (0 < t ∧ t ≤ c ∧ c ≤ 9223372036854775807 ∧ ∃ g, o = some ⟨g, 0, none⟩) := by
  rcases Nat.eq_zero_or_pos t with h0 | hp
  · exact .inl ⟨h0, h.nil h0⟩
  · right
    obtain ⟨h1, h2⟩ := own_cap5 h.own
    rcases h.own.2 with ⟨_, h0⟩ | ⟨g, c', cur, e1, _⟩
    · omega
    · cases e1; exact ⟨hp, h1, h2, g, rfl⟩
/-- The three appends. -/
theorem put_runs {W w : World} {t d k gq : Nat} {L : List K4} (r : K4) (h : Mk W (some ⟨gq, 0, none⟩) t d L w) (hk : k ≤ t) (hN : t ≤ 1000) :
    ∃ o1 c1 X1, (Builtin.append_ #[24, 24] 24 #[.slice none 0 0, .slice (some ⟨gq, 0, none⟩) k d]).run Try.prog w = .ok (.slice o1 k c1) X1 ∧ Below W.heap.size W X1 ∧
      ∃ g2 c2 X2, (Builtin.append_ #[24, 24] 24 #[.slice o1 k c1, .slice (some ⟨X1.heap.size, 0, none⟩) 1 1]).run Try.prog (X1.alloc (.cells (enc5 r).toArray 31)) = .ok (.slice (some ⟨g2, 0, none⟩) (k + 1) c2) X2 ∧
        ∀ off, (off = k * 5 ∨ k = t) → ∃ o3 c3 X3, (Builtin.append_ #[24, 24] 24 #[.slice (some ⟨g2, 0, none⟩) (k + 1) c2, .slice (some ⟨gq, off, none⟩) (t - k) (d - k)]).run Try.prog X2 = .ok (.slice o3 (k + 1 + (t - k)) c3) X3 ∧ Mk W o3 (k + 1 + (t - k)) c3 (L.take k ++ r :: L.drop k) X3 := by
  have hl : (L.map toRc).length = t := by rw [List.length_map]; exact h.len
  obtain ⟨s1, s2⟩ := own_src h.own hl hk
  obtain ⟨o1, c1, X1, r1, w1, b1⟩ := appR (W := w) (base := W.heap.size) (k := 0) (v := .slice none 0 0) (L := []) (c := d) (World.ownsRow_nil _ _ _ _) h.bel.size s1 (by omega)
  have b1w : Below w.heap.size w X1 := by
    obtain ⟨o1', c1', X1', r1', _, b1'⟩ := appR (W := w) (base := w.heap.size) (k := 0) (v := .slice none 0 0) (L := []) (c := d) (World.ownsRow_nil _ _ _ _) (Nat.le_refl _) s1 (by omega)
    rw [r1] at r1'
    injection r1' with _ e
    rw [e]; exact b1'
  rw [Nat.zero_add] at r1 w1
  rw [List.nil_append] at w1
  have B1 : Below W.heap.size W X1 := h.bel.trans b1
  refine ⟨o1, c1, X1, r1, B1, ?_⟩
  obtain ⟨g2, c2, X2, r2, w2, gr2, hat⟩ := push31 w1 (toRc r) B1.size (by omega)
  have hgq : gq < w.heap.size := by
    rcases h.own.2 with ⟨e1, _⟩ | ⟨g', c', cur, e1, _, h2, _⟩
    · cases e1
    · cases e1; exact lt_of_blk h2
  refine ⟨g2, c2, X2, r2, fun off hoff => ?_⟩
  have B2 : Below W.heap.size W X2 := PushOut.below (T := 24) (base := W.heap.size) (k := k) (rs := []) B1 B1.size (fun q hq => (own_blk w1 hq).1) gr2
  -- the old row lies where it lay
  have hne : ∀ q, (Value.slice o1 k c1).ownBlock = some q → q ≠ gq := by
    intro q hq e
    obtain ⟨o1', c1', X1', r1', w1', _⟩ := appR (W := w) (base := w.heap.size) (k := 0) (v := .slice none 0 0) (L := []) (c := d) (World.ownsRow_nil _ _ _ _) (Nat.le_refl _) s1 (by omega)
    rw [Nat.zero_add] at r1' w1'
    rw [r1] at r1'
    injection r1' with e1 e2
    injection e1 with e3 e4 e5
    subst e3 e5 e2
    have := (own_blk w1' hq).1
    omega
  have s3 : Src5 X2 (some ⟨gq, off, none⟩) (t - k) ((L.map toRc).drop k) := by
    obtain ⟨q1, g', off', e, q2⟩ := s2 off hoff
    cases e
    refine ⟨q1, gq, off, rfl, fun j hj u hu => ?_⟩
    have hb : X2.heap[gq]? = w.heap[gq]? := by
      rw [gr2.block gq (by have := b1w.size; simp; omega) (fun e => hne gq e.symm rfl)]
      rw [(below_box X1 (.cells (rec5 (toRc r)).toArray 31)).block gq (by have := b1w.size; omega)]
      exact b1w.block gq hgq
    have := q2 j hj u hu
    unfold World.cell? at this ⊢
    dsimp only at this ⊢
    rw [hb]
    exact this
  obtain ⟨o3, c3, X3, r3, w3, b3⟩ := appR (W := X2) (c := d - k) w2 B2.size s3 (by omega)
  refine ⟨o3, c3, X3, r3, B2.trans b3, ?_, ?_, fun e => by omega⟩
  · simp; have := h.len; omega
  · rw [show (L.take k ++ r :: L.drop k).map toRc = (L.map toRc).take k ++ [toRc r] ++ (L.map toRc).drop k by simp]
    exact w3
theorem Mk.first {W w : World} {o : Option Addr} {d : Nat} {L : List K4} (r : K4) (h : Mk W o 0 d L w) :
    ∃ g1 c1 B, (Builtin.append_ #[24, 24] 24 #[.slice none 0 0, .slice (some ⟨w.heap.size, 0, none⟩) 1 1]).run Try.prog (w.alloc (.cells (enc5 r).toArray 31)) = .ok (.slice (some ⟨g1, 0, none⟩) 1 c1) B ∧ 1 ≤ c1 ∧ Mk W (some ⟨g1, 0, none⟩) 1 c1 [r] B := by
  obtain ⟨g1, c1, B, r1, o1, gr1, _⟩ := push31 (W := w) (base := W.heap.size) (v := .slice none 0 0) (k := 0) (rs := []) (World.ownsRow_nil _ _ _ _) (toRc r) h.bel.size (by omega)
  refine ⟨g1, c1, B, r1, (own_cap5 o1).1, PushOut.below (T := 24) (base := W.heap.size) (k := 0) (rs := []) h.bel h.bel.size (fun q hq => by cases hq) gr1, rfl, o1, fun e => by omega⟩
/-- An id more, while the row of records stands. -/
theorem push2 {W w : World} {t d k : Nat} {o : Option Addr} {v : Value} {L : List K4} {xs : List Int} (ho : w.ownsRow W.heap.size 2 1 v k (xs.map (Value.int .i64))) (p : Int) (h : Mk W o t d L w) (hk : k ≤ 1000000) :
    ∃ g c B, (Builtin.append_ #[32, 32] 32 #[v, .slice (some ⟨w.heap.size, 0, none⟩) 1 1]).run Try.prog (w.alloc (.cells #[.int .i64 p] 2)) = .ok (.slice (some ⟨g, 0, none⟩) (k + 1) c) B ∧ B.ownsRow W.heap.size 2 1 (.slice (some ⟨g, 0, none⟩) (k + 1) c) (k + 1) ((xs ++ [p]).map (Value.int .i64)) ∧ Mk W o t d L B := by
  obtain ⟨i0, hi0, hz⟩ := Option.map_eq_some_iff.1 info2
  simp only [Prod.mk.injEq] at hz
  obtain ⟨g, c, B, hr, h2, h3, h5, _⟩ := run_append_lies (P := Try.prog) (w.alloc (.cells #[.int .i64 p] 2)) 32 32 W.heap.size 2 i0 (.int .i64 0) 1 8 Try.underlying32 hi0 hz.1 hz.2.1 hz.2.2 rfl (by decide) v k _ (ho.alloc _) ⟨w.heap.size, 0, none⟩ 1 1 [.int .i64 p] rfl (World.news_of_block (heap_alloc_new w (.cells #[.int .i64 p] 2))) (by intro u hu; simp at hu; subst hu; rfl) (by decide) (by unfold maxLen; omega) (by omega) (by have := h.bel.size; simp; omega) _ rfl
  refine ⟨g, c, B, hr, by rw [List.map_append]; exact h2, ?_, h.len, ?_, h.nil⟩
  · exact below_grown (h.bel.trans ((below_box w _).mono h.bel.size)) h3 (fun q hq => (own_blk ho hq).1) (by have := h.bel.size; simp; omega)
  · refine own_grown2 (own_below h.own (below_box w _)) h3 (fun q h1 h2 => ?_)
    obtain ⟨_, c1, e1⟩ := own_blk h.own h1
    obtain ⟨_, c2, e2⟩ := own_blk ho h2
    rw [e1] at e2
    injection e2 with e2
    injection e2 with _ e2
    exact absurd e2 (by decide)
theorem mayD_eq (r : Rc) (g : Int) : mayD r g = !(r.lk || decide (tier r.k.lb g = 1) || (decide (tier r.k.lb g = 2) && decide (r.k.us ≠ 0)) || (decide (tier r.k.lb g = 3) && decide (2 ≤ r.k.us))) := rfl
set_option maxHeartbeats 8000000 in
theorem choose11 {W : World} {a : Option Addr} {n c : Nat} {rs : List Rc} (g : Int) (p : Int) (hx : Rcs W a rs) (hn : rs.length = n) (hN : n ≤ 1000) (hp : 0 ≤ p ∧ p ≤ 100) (hm : ∀ r ∈ rs, mayP r g = mayD r g) :
    Calls Try.prog 11 #[.slice a n c, .int .i64 g, .int .i64 p] W fun e w' => (∃ o d, e = .returned (.tuple #[.slice o (chosen rs g p).length d, .int .i64 0]) ∧ w'.ownsRow W.heap.size 2 1 (.slice o (chosen rs g p).length d) (chosen rs g p).length ((chosen rs g p).map (Value.int .i64))) ∧ Below W.heap.size W w' := by
  have HX := hid (fun X (hX : Below W.heap.size W X) => hx.below hX)
  have HN := hid hn
  have HM := hid hm
  have sh : Hid (n = 0) ∨ ∃ b off, a = some ⟨b, off, none⟩ := by
    rcases hx.shape with h | h
    · left; rw [hn] at h; exact h
    · exact .inr h
  obtain ⟨h1, h2⟩ := hp
  have C9 := hid (fun r w => tier9 r g w)
  have C21 := hid (fun x y w => before21 x y w)
  clear hx hn hm
  rcases sh with Z | ⟨b, off, rfl⟩
  all_goals
    go_enter Try.func11, Try.ntmps11
    go_wp2_with fail
    go_loopw [8, 9] (fun rv iv wr => ∃ (i t : Nat) (o : Option Addr) (d : Nat) (L : List K4), i ≤ n ∧ t ≤ i ∧ iv = .int .i64 i ∧ rv = .slice o t d ∧ Hid (Sofar rs g i L) ∧ Hid (Mk W o t d L wr)) (fun _ iv _ => n - (intOf iv).toNat)
    case atStart => exact ⟨0, 0, none, 0, [], Nat.zero_le _, Nat.le_refl _, rfl, rfl, hid (Sofar.start rs g), hid ⟨Below.refl _ _, rfl, World.ownsRow_nil _ _ _ _, fun _ => ⟨rfl, rfl⟩⟩⟩
    case round =>
      obtain ⟨i, t, o, d, L, hi, hti, rfl, rfl, HS, HK⟩ := hrel
      by_cases hlt : i < n
      · first
        | (exfalso; have := Z.out; omega)
        | (have hlt' : (i : Int) < n := by omega
           have hix : i < rs.length := by rw [HN.out]; exact hlt
           obtain ⟨hok, x0, x1, x2, x3, x4⟩ := (HX.out wr HK.out.bel).at hix
           have HAT := hid (fun X (hX : Below W.heap.size W X) => (HX.out X hX).at hix)
           have HSK := hid (fun (hd : mayD rs[i] g = false) => HS.out.skip hix hd)
           have HSP := hid (fun k (hd : mayD rs[i] g = true) (hk : k ≤ L.length) => HS.out.put hix hd hk)
           have HMD := hid (mayD_eq rs[i] g)
           have C9r := hid (fun w => C9.out rs[i] w)
           have C21r := hid (fun y w => C21.out rs[i] (toRc y) w)
           have HLK := hid (fun (h : rs[i].lk = false) => show toRc rs[i].k = rs[i] from by unfold toRc; rw [← h])
           generalize rs[i] = r at *
           obtain ⟨⟨id, lb, sz, us⟩, lk⟩ := r
           dsimp only [rec5] at x0 x1 x2 x3 x4 C9r HAT HMD
           have HBX := hid (fun w4 (h : w4 = wr.alloc (.cells #[.int .i64 id, .int .i64 lb, .int .i64 sz, .int .i64 us, .bool lk] 31)) => show Below wr.heap.size wr w4 by rw [h]; exact below_box _ _)
           have HOKL := hid (show ∀ r ∈ L.map toRc, r.Ok from by
             intro r hr
             obtain ⟨x, hx, rfl⟩ := List.mem_map.1 hr
             obtain ⟨y, hy, rfl⟩ := List.mem_map.1 (HS.out.perm.mem_iff.1 hx)
             have := (HX.out wr HK.out.bel).ok y (List.mem_of_mem_take (List.mem_filter.1 hy).1)
             exact ⟨this.id, this.lb, this.sz, this.us⟩)
           clear hok HS
           obtain ⟨md, hmd⟩ : ∃ md, mayD ⟨⟨id, lb, sz, us⟩, lk⟩ g = md := ⟨_, rfl⟩
           rw [hmd] at HMD HSK HSP
           have HMV := hid hmd
           clear hmd
           go_upto_region 8 with (go_at_call 9; refine (C9r.out _).mono ?_; rintro e w4 ⟨rfl, hw4⟩
                                  have HK4 := hid (HK.out.below (HBX.out w4 hw4))
                                  have hy4 := HAT.out w4 HK4.out.bel
                                  clear hw4 HBX)
           obtain ⟨_, y0, y1, y2, y3, y4⟩ := hy4
           go_cut [10, 65] from 30 to 65 (fun tv s wc => s = .bool (!md) ∧ wc = w4)
           case first =>
             generalize tier lb g = tt at *
             go_wp2_with fail
             all_goals
               go_meet
               case rel => exact ⟨by rw [HMD.out]; simp [*], rfl⟩
           case rest =>
             obtain ⟨rfl, hwc⟩ := hcut
             rw [hwc]
             clear hwc
             cases md with
             | false =>
               have HSK2 := hid (HSK.out rfl)
               clear HSP HSK HMD
               go_wp2_with fail
               go_roundw
               case rel => exact ⟨i + 1, t, o, d, L, by omega, by omega, by go_num, rfl, HSK2, HK4⟩
               case measure => simp [intOf]; omega
             | true =>
               have hlk : lk = false := by
                 have hh := HMD.out
                 clear HMD HSK HSP HAT C9r C21r HLK HMV HK4 HK HX x4 y4
                 cases lk with
                 | false => rfl
                 | true => simp at hh
               subst hlk
               simp only [Bool.not_true]
               clear HSK HMD HLK
               have HZ := hid (fun w (h : Mk W o t d L w) => own_rcs h.own (by rw [List.length_map]; exact h.len) (by
                 intro r hr
                 exact (HOKL.out r hr)))
               go_upto_block 2 with fail
               go_cut [11] from 66 to 81 (fun kv wc => ∃ k : Nat, k ≤ t ∧ kv = .int .i64 k ∧ Hid (∀ j (hj : j < L.length), j < k → bef ⟨id, lb, sz, us⟩ L[j] = false) ∧ Hid (∀ hj : k < L.length, bef ⟨id, lb, sz, us⟩ L[k] = true) ∧ Hid (Mk W o t d L wc))
               case first =>
                 clear HSP
                 go_wp2_with fail
                 go_loopw [11] (fun kv wq => ∃ k : Nat, k ≤ t ∧ kv = .int .i64 k ∧ Hid (∀ j (hj : j < L.length), j < k → bef ⟨id, lb, sz, us⟩ L[j] = false) ∧ Hid (Mk W o t d L wq)) (fun kv _ => t - (intOf kv).toNat)
                 case atStart => exact ⟨0, Nat.zero_le _, rfl, hid (fun j _ h => absurd h (Nat.not_lt_zero _)), HK4⟩
                 case round =>
                   obtain ⟨k, hk, rfl, HP, HKQ⟩ := hrel
                   by_cases hkt : k < t
                   · have hkl : k < L.length := by rw [HKQ.out.len]; exact hkt
                     have hkt' : (k : Int) < t := by omega
                     rcases HKQ.out.shape with ⟨h0, _, _⟩ | ⟨_, _, _, gq, rfl⟩
                     · exfalso; omega
                     · have HS10 := hid (fun X (hX : Below wr.heap.size wr X) => And.intro (HAT.out X (HKQ.out.below hX).bel).2 (And.intro ((HZ.out X (HKQ.out.below hX)).at (j := k) (by simpa using hkl)).2 hX))
                       have HPK := hid (fun (h : bef ⟨id, lb, sz, us⟩ L[k] = false) => show ∀ j (hj : j < L.length), j < k + 1 → bef ⟨id, lb, sz, us⟩ L[j] = false from fun j hj hjk => by
                         by_cases e : j = k
                         · subst e; exact h
                         · exact HP.out j hj (by omega))
                       have HPT := hid (fun (h : bef ⟨id, lb, sz, us⟩ L[k] = true) => show ∀ hj : k < L.length, bef ⟨id, lb, sz, us⟩ L[k] = true from fun _ => h)
                       simp only [List.getElem_map, toRc, Nat.zero_add] at HS10
                       have C21k := hid (fun w => C21r.out L[k] w)
                       generalize L[k] = y at *
                       obtain ⟨yi, yl, ys, yu⟩ := y
                       dsimp only [rec5, toRc] at C21k HS10
                       have HBD := hid (show Below wr.heap.size wr wr.drew from (Below.refl _ _).drew)
                       have HP0 := hid HP.out
                       clear HP HAT HZ
                       cases hbv : bef ⟨id, lb, sz, us⟩ ⟨yi, yl, ys, yu⟩ with
                       | false =>
                         rw [hbv] at C21k
                         have HPK2 := hid (HPK.out hbv)
                         clear hbv HPK HPT
                         go_wp2_with fail
                         go_region_held3 (fun X => (X.cell? ⟨b, off + i * 5, none⟩ = some (.int .i64 id) ∧ X.cell? ⟨b, off + i * 5 + 1, none⟩ = some (.int .i64 lb) ∧ X.cell? ⟨b, off + i * 5 + 2, none⟩ = some (.int .i64 sz) ∧ X.cell? ⟨b, off + i * 5 + 3, none⟩ = some (.int .i64 us) ∧ X.cell? ⟨b, off + i * 5 + 4, none⟩ = some (.bool false)) ∧ (X.cell? ⟨gq, k * 5, none⟩ = some (.int .i64 yi) ∧ X.cell? ⟨gq, k * 5 + 1, none⟩ = some (.int .i64 yl) ∧ X.cell? ⟨gq, k * 5 + 2, none⟩ = some (.int .i64 ys) ∧ X.cell? ⟨gq, k * 5 + 3, none⟩ = some (.int .i64 yu) ∧ X.cell? ⟨gq, k * 5 + 4, none⟩ = some (.bool false)) ∧ Below wr.heap.size wr X)
                           (first | exact HS10.out _ HBD.out | exact HS10.out _ hb9')
                           (first | (go_at_call 21; refine (C21k.out _).mono ?_; rintro e w9 ⟨rfl, hb9⟩; have hb9' := (show Below wr.heap.size wr w9 from HBD.out.trans (hb9.mono (by simp))); clear hb9))
                         have HKN := hid (HKQ.out.below hb9')
                         clear HS10 C21k
                         go_wp2_with fail
                         go_roundw
                         case rel => exact ⟨k + 1, by omega, by go_num, HPK2, HKN⟩
                         case measure => simp [intOf]; omega
                       | true =>
                         rw [hbv] at C21k
                         have HPT2 := hid (HPT.out hbv)
                         clear hbv HPK HPT
                         go_wp2_with fail
                         go_region_held3 (fun X => (X.cell? ⟨b, off + i * 5, none⟩ = some (.int .i64 id) ∧ X.cell? ⟨b, off + i * 5 + 1, none⟩ = some (.int .i64 lb) ∧ X.cell? ⟨b, off + i * 5 + 2, none⟩ = some (.int .i64 sz) ∧ X.cell? ⟨b, off + i * 5 + 3, none⟩ = some (.int .i64 us) ∧ X.cell? ⟨b, off + i * 5 + 4, none⟩ = some (.bool false)) ∧ (X.cell? ⟨gq, k * 5, none⟩ = some (.int .i64 yi) ∧ X.cell? ⟨gq, k * 5 + 1, none⟩ = some (.int .i64 yl) ∧ X.cell? ⟨gq, k * 5 + 2, none⟩ = some (.int .i64 ys) ∧ X.cell? ⟨gq, k * 5 + 3, none⟩ = some (.int .i64 yu) ∧ X.cell? ⟨gq, k * 5 + 4, none⟩ = some (.bool false)) ∧ Below wr.heap.size wr X)
                           (first | exact HS10.out _ HBD.out | exact HS10.out _ hb9')
                           (first | (go_at_call 21; refine (C21k.out _).mono ?_; rintro e w9 ⟨rfl, hb9⟩; have hb9' := (show Below wr.heap.size wr w9 from HBD.out.trans (hb9.mono (by simp))); clear hb9))
                         have HKN := hid (HKQ.out.below hb9')
                         clear HS10 C21k
                         go_wp2_with fail
                         go_meet
                         case rel => exact ⟨k, hk, rfl, HP0, HPT2, HKN⟩
                   · have hkf : decide ((k : Int) < t) = false := by simp; omega
                     have HPE := hid (show ∀ hj : k < L.length, bef ⟨id, lb, sz, us⟩ L[k] = true from fun hj => absurd hj (by rw [HKQ.out.len]; exact hkt))
                     have HKD := hid (fun q => HKQ.out.below (Drawn.below (w := wr) ⟨q, rfl⟩))
                     clear HAT HZ
                     go_wp2_with fail
                     go_quiet (fail)
                     go_wp2_with fail
                     go_meet
                     case rel => exact ⟨k, hk, rfl, HP, HPE, hid (HKD.out _)⟩
               case rest =>
                 obtain ⟨k, hk, rfl, HP, HP2, HKR⟩ := hcut
                 have HSN := hid (HSP.out k rfl (by rw [HKR.out.len]; exact hk) HP.out HP2.out)
                 clear HSP HP HP2 HZ
                 rcases HKR.out.shape with ⟨h0, rfl, rfl⟩ | ⟨hp0, hc1, hc2, gq, rfl⟩
                 · obtain rfl : k = 0 := by omega
                   subst h0
                   have hL : L = [] := List.eq_nil_of_length_eq_zero HKR.out.len
                   obtain ⟨g1, c1, B, r1, hc, hB⟩ := HKR.out.first ⟨id, lb, sz, us⟩
                   dsimp only [enc5] at r1
                   have R0 := hid (app_nn wc)
                   have R1 := hid r1
                   have R2 := hid (app_sn B g1 1 c1 hc)
                   have HBM := hid hB
                   obtain ⟨_, z0, z1, z2, z3, z4⟩ := HAT.out wc HKR.out.bel
                   subst hL
                   have HSN2 := hid HSN.out
                   simp only [List.take_nil, List.drop_nil, List.nil_append] at HSN2
                   clear r1 hB hc HAT HKR HSN
                   go_wp2_with (at_builtin; first
                     | (refine wpList_append_run rfl (.tmp 84) (.tmp 87) 24 24 rfl rfl rfl R0.out ?_)
                     | (refine wpList_append_run rfl (.tmp 89) (.tmp 94) 24 24 rfl rfl rfl R1.out ?_)
                     | (refine wpList_append_run rfl (.tmp 96) (.tmp 99) 24 24 rfl rfl rfl R2.out ?_))
                   go_roundw
                   case rel => exact ⟨i + 1, 1, some ⟨g1, 0, none⟩, c1, [⟨id, lb, sz, us⟩], by omega, by omega, by go_num, rfl, HSN2, HBM⟩
                   case measure => simp [intOf]; omega
                 · obtain ⟨o1, c1, X1, r1, b1, g2, c2, X2, r2, h3⟩ := put_runs ⟨id, lb, sz, us⟩ HKR.out hk (by omega)
                   dsimp only [enc5] at r2
                   have R1 := hid r1
                   have R2 := hid r2
                   obtain ⟨_, z0, z1, z2, z3, z4⟩ := HAT.out X1 b1
                   have hkt' : (k : Int) ≤ t := by omega
                   have htd' : (t : Int) ≤ d := by omega
                   have hkd' : (k : Int) ≤ d := by omega
                   by_cases hkd : k = d
                   · have hkt2 : k = t := by omega
                     obtain ⟨o3, c3, X3, r3, hM⟩ := h3 0 (.inr hkt2)
                     subst hkd
                     subst hkt2
                     simp only [Nat.sub_self, Nat.add_zero] at r3 hM
                     have R3 := hid r3
                     have HM3 := hid hM
                     clear r1 r2 h3 b1 HAT HKR r3 hM
                     go_wp2_with (at_builtin; first
                       | (refine wpList_append_run rfl (.tmp 84) (.tmp 87) 24 24 rfl rfl rfl R1.out ?_)
                       | (refine wpList_append_run rfl (.tmp 89) (.tmp 94) 24 24 rfl rfl rfl R2.out ?_)
                       | (refine wpList_append_run rfl (.tmp 96) (.tmp 99) 24 24 rfl rfl rfl R3.out ?_))
                     go_roundw
                     case rel => exact ⟨i + 1, k + 1, o3, c3, _, by omega, by omega, by go_num, rfl, HSN, HM3⟩
                     case measure => simp [intOf]; omega
                   · obtain ⟨o3, c3, X3, r3, hM⟩ := h3 (k * 5) (.inl rfl)
                     have R3 := hid r3
                     have HM3 := hid hM
                     have hkd2 : ¬ (k : Int) = d := by omega
                     clear r1 r2 h3 b1 HAT HKR r3 hM
                     go_wp2_with (at_builtin; first
                       | (refine wpList_append_run rfl (.tmp 84) (.tmp 87) 24 24 rfl rfl rfl R1.out ?_)
                       | (refine wpList_append_run rfl (.tmp 89) (.tmp 94) 24 24 rfl rfl rfl R2.out ?_)
                       | (refine wpList_append_run rfl (.tmp 96) (.tmp 99) 24 24 rfl rfl rfl R3.out ?_))
                     go_roundw
                     case rel => exact ⟨i + 1, k + 1 + (t - k), o3, c3, _, by omega, by omega, by go_num, rfl, HSN, HM3⟩
                     case measure => simp [intOf]; omega)
      · have hge : ¬ (i : Int) < n := by omega
        have hin : i = n := by omega
        subst hin
        have HL := hid (show L = ord g rs from by have := HS.out; rw [← HN.out] at this; exact this.done HM.out)
        have HOKL := hid (show ∀ r ∈ L.map toRc, r.Ok from by rw [HL.out]; exact ord_ok (fun r hr => (HX.out wr HK.out.bel).ok r hr))
        have HZ := hid (fun w (h : Mk W o t d L w) => own_rcs h.own (by rw [List.length_map]; exact h.len) HOKL.out)
        obtain ⟨q, rfl⟩ : ∃ q : Nat, p = q := ⟨p.toNat, by omega⟩
        have w1 : wrap64 ((t : Int) * (q : Int)) = (t : Int) * (q : Int) := by
          have : (t : Int) * (q : Int) ≤ 1000 * 100 := Int.mul_le_mul (by omega) (by omega) (by omega) (by omega)
          have : 0 ≤ (t : Int) * (q : Int) := Int.mul_nonneg (by omega) (by omega)
          unfold wrap64; omega
        have hq2 := part_int t q
        have hpl := part_le (n := t) h1 h2
        have HCH := hid (show chosen rs g (q : Int) = (L.map K4.id).take (part t (q : Int)) from by unfold chosen; rw [← HL.out, HK.out.len, List.map_take])
        generalize part t (q : Int) = u at *
        have hsh : Hid (u = 0) ∨ ∃ gq, o = some ⟨gq, 0, none⟩ := by
          rcases HK.out.shape with ⟨h0, _, _⟩ | ⟨_, _, _, gq, e⟩
          · exact .inl (hid (by omega))
          · exact .inr ⟨gq, e⟩
        clear HS HM HL HOKL C9 C21
        rcases hsh with Z2 | ⟨gq, rfl⟩
        all_goals
          go_wp2_with fail
          go_loopw [13, 14] (fun ov kv wr => ∃ (k : Nat) (xo : Option Addr) (xd : Nat), k ≤ u ∧ kv = .int .i64 k ∧ ov = .slice xo k xd ∧ Hid (Mk W _ t d L wr) ∧ Hid (wr.ownsRow W.heap.size 2 1 (.slice xo k xd) k (((L.map K4.id).take k).map (Value.int .i64)))) (fun _ kv _ => u - (intOf kv).toNat)
          case atStart => exact ⟨0, none, 0, Nat.zero_le _, rfl, rfl, HK, hid (by simpa using World.ownsRow_nil _ _ _ _)⟩
          case round =>
            obtain ⟨k, xo, xd, hk, rfl, rfl, HKQ, HO⟩ := hrel
            by_cases hku : k < u
            · first
              | (exfalso; have := Z2.out; omega)
              | (have hku' : (k : Int) < u := by omega
                 have hkt' : (k : Int) < t := by omega
                 have hkl : k < L.length := by rw [HKQ.out.len]; omega
                 obtain ⟨_, z0, z1, z2, z3, z4⟩ := (HZ.out _ HKQ.out).at (j := k) (by simpa using hkl)
                 simp only [List.getElem_map, toRc, Nat.zero_add] at z0
                 have HTK := hid (show (L.map K4.id).take (k + 1) = (L.map K4.id).take k ++ [L[k].id] from by rw [List.take_succ_eq_append_getElem (by simpa using hkl), List.getElem_map])
                 obtain ⟨g1, c1, B, r1, o1, hM⟩ := push2 HO.out L[k].id HKQ.out (by omega)
                 generalize L[k].id = v at *
                 have R1 := hid r1
                 have HO1 := hid o1
                 have HM1 := hid hM
                 clear r1 o1 hM z1 z2 z3 z4 HKQ HO
                 go_wp2_with (at_builtin; refine wpList_append_run rfl (.tmp 111) (.tmp 117) 32 32 rfl rfl rfl R1.out ?_)
                 go_roundw
                 case rel => exact ⟨k + 1, some ⟨g1, 0, none⟩, c1, by omega, by go_num, rfl, HM1, hid (by rw [HTK.out]; exact HO1.out)⟩
                 case measure => simp [intOf]; omega)
            · have hgu : ¬ (k : Int) < u := by omega
              have hkk : k = u := by omega
              subst hkk
              have HLN := hid (show (chosen rs g (q : Int)).length = k from by rw [HCH.out]; simp; have := HKQ.out.len; omega)
              go_wp2_with fail
              go_ret2
              exact ⟨⟨xo, xd, by rw [HLN.out]; rfl, by rw [HLN.out, HCH.out]; exact HO.out⟩, HKQ.out.bel⟩
end Go.Proofs.Ytekkbpaelojmeaa
