/- tells: a store tells what the document's does. -/
import Derived.Test.YtkodfojccodoaaaDcU
import Derived.Test.YtkodfojccodoaaaCpz
import Derived.Test.YtkodfojccodoaaaSav
namespace Go.Proofs.Ytkodfojccodoaaa
open Go.RowKit Go.Maps
set_option linter.unusedVariables false
set_option linter.unusedSimpArgs false
set_option maxRecDepth 100000
/-- What was told, written over as far as j. -/
structure Tld (W0 : World) (o : Option Addr) (c n j : Nat) (sv : List Bool) (W : World) : Prop where
  bel : Below W0.heap.size W0 W
  row : ∃ xs, W.ownsRow W0.heap.size 4 1 (.slice o n c) n (bls xs) ∧ xs.length = n ∧ ∀ u, j ≤ u → xs.getD u false = sv.getD u false
theorem Tld.later {W0 W W' : World} {o : Option Addr} {c n j : Nat} {sv : List Bool} (H : Tld W0 o c n j sv W) (h : Below W.heap.size W W') : Tld W0 o c n j sv W' := by
  obtain ⟨xs, h1, h2, h3⟩ := H.row
  exact ⟨H.bel.trans (h.mono H.bel.size), xs, own_below h1 h, h2, h3⟩
set_option maxHeartbeats 4000000 in
theorem tells15 {N : Nat} {A : Adr} {n : Nat} {K : Int} {P : Ph.St} {D : Da} {W : World} (HP : Pn N A n K P W) (HD : Dm D P W) (hn : D.n = n) :
    Calls Try.prog 15 #[.pointer (some ⟨A.pb, 0, none⟩), .pointer (some ⟨D.qb, 0, none⟩)] W fun e w' => e = .returned (.bool true) ∧ Below W.heap.size W w' := by
  have C18 := hid HP.saved
  obtain ⟨ov, cv, hv⟩ := HD.val
  have HV := hid hv
  have hmx := HD.mx
  rw [hn] at hmx
  have HMX := hid hmx
  have HPh := hid (fun (w : World) (hb : Below W.heap.size W w) => HP.below hb)
  have HDh := hid (fun (w : World) (hb : Below W.heap.size W w) => HD.below hb)
  have HN := hid hn
  have HL := hid (show P.sv.length = n by rw [← hn]; exact HD.len)
  have hso : Hid (n = 0) ∨ ∃ g, ov = some ⟨g, 0, none⟩ := by
    rcases Nat.eq_zero_or_pos n with h0 | h0
    · exact .inl h0
    · have hs := HD.vs
      rw [hv] at hs
      obtain ⟨g, c', cur, e, _⟩ := own_some hs (by omega)
      cases e
      exact .inr ⟨g, rfl⟩
  have HE := hid (fun (v : Int) => show Calls Try.prog 28 #[.pointer (some ⟨D.qb, 0, none⟩), .int .i64 v] W fun e w' => DecO D P v W e w' from decide28 HD v)
  have HC0 := hid (fun (w : World) (hb : Below W.heap.size W w) => show w.cell? ⟨D.qb, 0, none⟩ = some (.slice ov n cv) from by
    have e := row_cell (HD.below hb).blk 0
    rw [hv, hn] at e
    exact e)
  clear HP HD hv hn hmx HE
  go_enter Try.func15, Try.ntmps15
  go_wp2_with (fail)
  go_at_call 18
  refine C18.out.mono ?_
  rintro e w1 ⟨o, c, rfl, ow, b1⟩
  have H0 := hid (show Tld W o c n 0 P.sv w1 from ⟨b1, P.sv, ow, HL.out, fun u _ => rfl⟩)
  have hsl : Hid (n = 0) ∨ ∃ g, o = some ⟨g, 0, none⟩ := by
    rcases Nat.eq_zero_or_pos n with h0 | h0
    · exact .inl h0
    · obtain ⟨g, c', cur, e, _⟩ := own_some ow h0
      cases e
      exact .inr ⟨g, rfl⟩
  have hnn : ((n : Int) != (n : Int)) = false := by simp
  have c0 := HC0.out _ b1
  clear C18 ow b1
  go_wp2_with (fail)
  rcases hsl with Zl | ⟨gl, hgl⟩
  case' inr => subst hgl
  all_goals
    go_loopw [6] (fun i wr => ∃ j : Nat, j ≤ n ∧ i = .int .i64 (j : Nat) ∧ Hid (Tld W _ c n j P.sv wr)) (fun i _ => n - (intOf i).toNat)
    case atStart => exact ⟨0, Nat.zero_le _, rfl, H0⟩
    case round =>
      obtain ⟨j, hj, rfl, HI⟩ := hrel
      by_cases hlt : j < n
      · first
          | (exfalso; have := Zl.out; omega)
          | (rcases hso with Zo | ⟨g, hog⟩
             · exfalso; have := Zo.out; omega
             · subst hog
               have hlt' : (j : Int) < n := by omega
               have hwk : wrap64 ((j : Int) + 1) = (j : Int) + 1 := by have := HMX.out; unfold wrap64; omega
               have CP := hid ((HPh.out wr HI.out.bel).decide' ((j : Int) + 1))
               have CD := hid (decide28 (HDh.out wr HI.out.bel) ((j : Int) + 1))
               unfold DecO at CD
               rw [HN.out] at CD
               generalize Ph.dB n P ((j : Int) + 1) = bx at *
               generalize Ph.dE n ((j : Int) + 1) = ee at *
               have hxx : (bx != bx) = false := by simp
               have hee : (ee != ee) = false := by simp
               clear H0 c0
               go_wp2_with (fail)
               go_at_call 20
               refine CP.out.mono ?_
               rintro e w9 ⟨rfl, hw9⟩
               rw [hw9]
               clear hw9 CP
               go_wp2_with (fail)
               go_at_call 28
               refine CD.out.mono ?_
               rintro e w3 ⟨rfl, b3⟩
               have HT := hid (HI.out.later b3)
               clear b3 CD HI
               have c0 := HC0.out _ HT.out.bel
               obtain ⟨xs, r1, r2, r3⟩ := HT.out.row
               have x0 := (own_cell r1 hlt).1
               have x1 := (own_cell r1 hlt).2
               rw [bls_at (by omega), r3 j (Nat.le_refl _)] at x0
               have hvs := (HDh.out _ HT.out.bel).vs
               rw [HV.out, HN.out] at hvs
               have y0 := (own_cell hvs hlt).1
               rw [bls_at (by rw [HL.out]; exact hlt)] at y0
               have hgl := (own_blk r1 rfl).1
               have HS := hid (show Tld W (some ⟨gl, 0, none⟩) c n (j + 1) P.sv (w3.setCell ⟨gl, j, none⟩ (.bool (!P.sv.getD j false))) from
                 ⟨bel_set HT.out.bel hgl _, xs.set j (!P.sv.getD j false), by rw [← bls_set]; exact own_setc r1 j _, by simp [r2], fun u hu => by
                   rw [Ph.setB _ _ _ (by omega), if_neg (by omega)]
                   exact r3 u (by omega)⟩)
               have HSd := hid (fun (q : Nat) => show Tld W (some ⟨gl, 0, none⟩) c n (j + 1) P.sv ((w3.drewN q).setCell ⟨gl, j, none⟩ (.bool (!P.sv.getD j false))) from HS.out.later (Drawn.below ⟨q, rfl⟩))
               generalize P.sv.getD j false = y at *
               have hyy : (y != y) = false := by simp
               clear HT r1 r2 r3 hvs hgl
               go_wp2_with (fail)
               go_quiet (fail)
               go_wp2_with (fail)
               rw [hwk]
               exact ⟨⟨j + 1, hlt, rfl, hid (HSd.out nq)⟩, by simp only [intOf]; exact meas hlt⟩)
      · have hge : ¬ (j : Int) < n := by omega
        have HB := hid HI.out.bel
        clear HI H0
        go_wp2
        go_ret
        exact ⟨rfl, HB.out⟩
end Go.Proofs.Ytkodfojccodoaaa
